/- 12 of this claim's texts, one behind the other. -/
import Derived.Test.YtaccgciopmclhaaGreatDoorPart2
import Derived.Test.YtaccgciopmclhaaGreatDoorPart13
import Derived.Deep.AppendLies
import Derived.Deep.RegionHeld3
import Derived.Deep.DeepCutAuto
import Derived.Test.YtaccgciopmclhaaGreatDoorPart4
import Derived.Test.YtaccgciopmclhaaGreatDoorPart5
import Derived.Test.YtaccgciopmclhaaGreatDoorPart6
import Derived.WalkKit
import Derived.WalkSpells
import Derived.WalkLawsBesides
import Derived.Test.YtaccgciopmclhaaGreatDoorPart1
import Derived.Laws.ResultCell
import Derived.Test.YtaccgciopmclhaaGreatDoorPart7
/- The walk of the program's domainsRight. -/
namespace Go.Proofs.YtaccgciopmclhaaGreatDoor
open Go.RowKit

/-- the member at a place is right, and greater than the one ahead of it -/
def okN (n : Nat) (f : Nat → ByteArray) (x : SetL) (i : Nat) : Bool :=
  domR n f (atL x.2 i) && (i == 0 || Op.bytesLess (atL x.2 (i - 1)).toList (atL x.2 i).toList)
/-- right by itself, but that the primary is no member -/
def domsB (n : Nat) (f : Nat → ByteArray) (x : SetL) : Bool :=
  domR n f x.1 && decide (1 ≤ x.2.length) && decide (x.2.length ≤ 4) && decide (∀ i, i < x.2.length → okN n f x i = true)
theorem domsB_at {n : Nat} {f : Nat → ByteArray} {x : SetL} (k : Nat) (h : k < x.2.length) (hk : okN n f x k = false) : domsB n f x = false := by
  unfold domsB
  rw [decide_eq_false (p := ∀ i, i < x.2.length → okN n f x i = true) (fun h' => by rw [h' k h] at hk; cases hk), Bool.and_false]
theorem domsB_all {n : Nat} {f : Nat → ByteArray} {x : SetL} (h0 : domR n f x.1 = true) (h1 : 1 ≤ x.2.length) (h2 : x.2.length ≤ 4) (h : ∀ i, i < x.2.length → okN n f x i = true) : domsB n f x = true := by
  unfold domsB
  rw [decide_eq_true h, decide_eq_true h1, decide_eq_true h2, h0]; rfl
theorem domsB_parts {n : Nat} {f : Nat → ByteArray} {x : SetL} (h : domsB n f x = true) : domR n f x.1 = true ∧ 1 ≤ x.2.length ∧ x.2.length ≤ 4 ∧ ∀ i, i < x.2.length → okN n f x i = true := by
  unfold domsB at h
  rw [Bool.and_eq_true, Bool.and_eq_true, Bool.and_eq_true, decide_eq_true_eq, decide_eq_true_eq, decide_eq_true_eq] at h
  exact ⟨h.1.1.1, h.1.1.2, h.1.2, h.2⟩
theorem domsB_no {n : Nat} {f : Nat → ByteArray} {x : SetL} (h : ¬ (domR n f x.1 = true ∧ 1 ≤ x.2.length ∧ x.2.length ≤ 4)) : domsB n f x = false := by
  cases e : domsB n f x with
  | false => rfl
  | true => exact absurd (let h := domsB_parts e; ⟨h.1, h.2.1, h.2.2.1⟩) h
theorem okN_succ {n : Nat} {f : Nat → ByteArray} {x : SetL} {k : Nat} (h : ∀ i, i < k → okN n f x i = true) (hk : okN n f x k = true) : ∀ i, i < k + 1 → okN n f x i = true := by
  intro i hi
  by_cases e : i = k
  · subst e; exact hk
  · exact h i (by omega)

set_option maxRecDepth 10000 in
set_option maxHeartbeats 4000000 in
theorem domainsRight_any (v : Value) (n B : Nat) (f : Nat → ByteArray) (x : SetL) (u : Value) (B' : Nat) (w : World) (hG : MaxI w) (hr : SliceS w B v n f) (l1 : n ≤ 1048576) (hf : ∀ i, i < n → (f i).size ≤ 1048576) (hs : SliceS w B' u x.2.length (atL x.2)) (hn : x.2.length ≤ 1048576) (hz : x.1.size ≤ 1048576) (hy : ∀ i, i < x.2.length → (atL x.2 i).size ≤ 1048576) :
    Calls Tryz.prog 172 #[v, .agg #[.string x.1, u]] w fun e w' => e = .returned (.bool (domsB n f x)) ∧ Below w.heap.size w w' := by
  have B0 : Hid (Below w.heap.size w (w.alloc (.cells #[.string x.1, u] 121))) := (Below.refl _ _).alloc (Nat.le_refl _) _
  have KX : Hid (∀ t, t.size ≤ 1048576 → ∀ W, Below w.heap.size w W → Calls Tryz.prog 189 #[v, .string t] W fun e w' => e = .returned (.bool (domR n f t)) ∧ Below W.heap.size W w') := fun t ht W hb => domainRight_any v n B f t W (hG.on hb) (hr.below hb) l1 hf ht
  have HA : Hid ((∀ k, k < x.2.length → okN n f x k = false → domsB n f x = false) ∧ (domR n f x.1 = true → 1 ≤ x.2.length → x.2.length ≤ 4 → (∀ i, i < x.2.length → okN n f x i = true) → domsB n f x = true) ∧ (¬ (domR n f x.1 = true ∧ 1 ≤ x.2.length ∧ x.2.length ≤ 4) → domsB n f x = false)) := ⟨fun k a b => domsB_at k a b, domsB_all, domsB_no⟩
  have hge : ∀ (t : TypeId) (a b : ByteArray), binOp .geq t (.string a) (.string b) = pure (.bool (!(Op.bytesLess a.toList b.toList))) := geq_text
  obtain ⟨p, M⟩ := x
  dsimp only at hs hn hz hy B0 HA ⊢
  have HZ : Hid (∀ i, i < M.length → (atL M i).size ≤ 1048576) := hy
  have HM : Hid (∀ k, okN n f (p, M) k = (domR n f (atL M k) && (k == 0 || Op.bytesLess (atL M (k - 1)).toList (atL M k).toList))) := fun k => rfl
  generalize domsB n f (p, M) = R at *
  have HS : Hid (SliceS w B' u M.length (atL M)) := hs
  clear hs hr hf hG hy
  obtain ⟨q, cap, rfl, -⟩ := HS.out
  have K1 : Hid (Calls Tryz.prog 189 #[v, .string p] (w.alloc (.cells #[.string p, .slice q M.length cap] 121)) fun e w' => e = .returned (.bool (domR n f p)) ∧ Below (w.alloc (.cells #[.string p, .slice q M.length cap] 121)).heap.size (w.alloc (.cells #[.string p, .slice q M.length cap] 121)) w') := KX.out p hz _ B0.out
  cases hdp : domR n f p with
  | false =>
    have HQ : Hid (R = false) := HA.out.2.2 (by rw [hdp]; rintro ⟨a, _⟩; cases a)
    rw [hdp] at K1
    go_enter Tryz.func172, Tryz.ntmps172
    go_wp2_with fail
    refine K1.out.mono ?_
    rintro e w1 ⟨rfl, hb1⟩
    go_wp2
    go_ret
    exact ⟨ret_b HQ.out.symm, B0.out.trans (hb1.mono B0.out.size)⟩
  | true =>
  rw [hdp] at K1
  by_cases hM0 : M.length < 1
  · have HQ : Hid (R = false) := HA.out.2.2 (fun a => by omega)
    have hM : M = [] := List.length_eq_zero_iff.1 (by omega)
    subst hM
    go_enter Tryz.func172, Tryz.ntmps172
    go_wp2_with fail
    refine K1.out.mono ?_
    rintro e w1 ⟨rfl, hb1⟩
    have b1 : w1.cell? ⟨w.heap.size, 1, none⟩ = some (.slice q ([] : List ByteArray).length cap) := by rw [(bcell hb1).1 _ _ (by simp)]; simp
    have B1 : Hid (Below w.heap.size w w1) := B0.out.trans (hb1.mono B0.out.size)
    clear hb1
    go_wp2
    go_ret
    exact ⟨ret_b HQ.out.symm, B1.out⟩
  have q0 : ((M.length : Int) == 0) = false := by rw [beq_eq_false_iff_ne]; omega
  have q0' : decide ((M.length : Int) = 0) = false := by rw [decide_eq_false_iff_not]; omega
  have q00 : ¬ M = [] := fun e => by rw [e] at hM0; exact hM0 (by decide)
  by_cases hM4 : 4 < M.length
  · have HQ : Hid (R = false) := HA.out.2.2 (fun a => by omega)
    have q1 : decide ((4 : Int) < (M.length : Int)) = true := by rw [decide_eq_true_iff]; omega
    go_enter Tryz.func172, Tryz.ntmps172
    go_wp2_with fail
    refine K1.out.mono ?_
    rintro e w1 ⟨rfl, hb1⟩
    have b1 : w1.cell? ⟨w.heap.size, 1, none⟩ = some (.slice q M.length cap) := by rw [(bcell hb1).1 _ _ (by simp)]; simp
    have B1 : Hid (Below w.heap.size w w1) := B0.out.trans (hb1.mono B0.out.size)
    clear hb1
    go_wp2
    go_ret
    exact ⟨ret_b HQ.out.symm, B1.out⟩
  have q1 : decide ((4 : Int) < (M.length : Int)) = false := by rw [decide_eq_false_iff_not]; omega
  have HN : Hid (∀ k, k < M.length → okN n f (p, M) k = false → R = false) := HA.out.1
  have HY : Hid ((∀ i, i < M.length → okN n f (p, M) i = true) → R = true) := HA.out.2.1 hdp (by omega) (by omega)
  obtain ⟨q', cap', e', hg⟩ := HS.out
  obtain ⟨g, rfl, -, hgw, hc⟩ := hg (by omega)
  obtain rfl : q = some ⟨g, 0, none⟩ := by injection e'
  have HC : Hid (∀ j, j < M.length → w.cell? ⟨g, j, none⟩ = some (.string (atL M j))) := fun j hj => (hc j hj).1
  clear HA hg hc e' hdp
  go_enter Tryz.func172, Tryz.ntmps172
  go_wp2_with fail
  refine K1.out.mono ?_
  rintro e w1 ⟨rfl, hb1⟩
  have e1 : w1.cell? ⟨w.heap.size, 1, none⟩ = some (.slice (some ⟨g, 0, none⟩) M.length cap) := by rw [(bcell hb1).1 _ _ (by simp)]; simp
  have B1 : Hid (Below w.heap.size w w1) := B0.out.trans (hb1.mono B0.out.size)
  have hbw : w.heap.size < w1.heap.size := by have := hb1.size; simp at this; omega
  clear hb1 K1 B0
  go_wp2
  go_loopw [27] (fun i wr => ∃ k : Nat, k ≤ M.length ∧ i = .int .i64 k ∧ Hid (Below w1.heap.size w1 wr) ∧ Hid (∀ j, j < k → okN n f (p, M) j = true)) (fun i _ => M.length - (intOf i).toNat)
  case atStart => exact ⟨0, Nat.zero_le _, rfl, Below.refl _ _, fun j hj => absurd hj (by omega)⟩
  case round =>
    obtain ⟨k, hk, rfl, HB, HR⟩ := hrel
    have b1 : wr.cell? ⟨w.heap.size, 1, none⟩ = some (.slice (some ⟨g, 0, none⟩) M.length cap) := by rw [(bcell HB.out).1 _ _ hbw]; exact e1
    have hbr : w.heap.size < wr.heap.size := Nat.lt_of_lt_of_le hbw HB.out.size
    by_cases hlt : k < M.length
    · have hgw1 : g < w1.heap.size := Nat.lt_of_lt_of_le hgw B1.out.size
      have hgr : g < wr.heap.size := Nat.lt_of_lt_of_le hgw1 HB.out.size
      have HCr : Hid (∀ j, j < M.length → wr.cell? ⟨g, j, none⟩ = some (.string (atL M j))) := fun j hj => by rw [(bcell HB.out).1 _ _ hgw1, (bcell B1.out).1 _ _ hgw]; exact HC.out j hj
      have hck : wr.cell? ⟨g, k, none⟩ = some (.string (atL M k)) := HCr.out k hlt
      have KD0 : Calls Tryz.prog 189 #[v, .string (atL M k)] wr fun e w' => e = .returned (.bool (domR n f (atL M k))) ∧ Below wr.heap.size wr w' := KX.out (atL M k) (HZ.out k hlt) wr (B1.out.trans (HB.out.mono B1.out.size))
      have k0 : (0 : Int) ≤ k := by omega
      have k1 : (k : Int) < M.length := by omega
      have HMk := HM.out k
      cases hd : domR n f (atL M k) with
      | false =>
        have HQ : Hid (R = false) := HN.out k hlt (by rw [HMk, hd]; rfl)
        rw [hd] at KD0
        have KD : Hid (Calls Tryz.prog 189 #[v, .string (atL M k)] wr fun e w' => e = .returned (.bool false) ∧ Below wr.heap.size wr w') := KD0
        clear KD0 hd HMk
        generalize atL M k = t at *
        go_wp2_with fail
        refine KD.out.mono ?_
        rintro e w2 ⟨rfl, hb2⟩
        have B2 : Hid (Below w.heap.size w w2) := (B1.out.trans (HB.out.mono B1.out.size)).trans (hb2.mono (Nat.le_of_lt hbr))
        clear hb2
        go_wp2
        go_ret
        exact ⟨ret_b HQ.out.symm, B2.out⟩
      | true =>
        rw [hd] at KD0 HMk
        have KD : Hid (Calls Tryz.prog 189 #[v, .string (atL M k)] wr fun e w' => e = .returned (.bool true) ∧ Below wr.heap.size wr w') := KD0
        clear KD0 hd
        cases k with
        | zero =>
          have HK : Hid (okN n f (p, M) 0 = true) := by show _ = _; rw [HMk]; rfl
          clear HMk
          generalize atL M 0 = t at *
          have q2 : decide ((0 : Int) < ((0 : Nat) : Int)) = false := by decide
          go_wp2_with fail
          refine KD.out.mono ?_
          rintro e w2 ⟨rfl, hb2⟩
          have B2 : Hid (Below w1.heap.size w1 w2) := HB.out.trans (hb2.mono HB.out.size)
          clear hb2
          go_wp2
          go_roundw
          case rel => exact ⟨1, by omega, by go_num, B2, okN_succ (k := 0) (fun i hi => absurd hi (by omega)) HK.out⟩
          case measure => simp [intOf]; omega
        | succ m =>
          have hcm : wr.cell? ⟨g, m, none⟩ = some (.string (atL M m)) := HCr.out m (by omega)
          have HE : Hid (okN n f (p, M) (m + 1) = Op.bytesLess (atL M m).toList (atL M (m + 1)).toList) := by show _ = _; rw [HMk]; rfl
          clear HMk
          have q2 : decide ((0 : Int) < ((m : Int) + 1)) = true := by rw [decide_eq_true_iff]; omega
          have p0 : (0 : Int) ≤ (m : Int) + 1 := by omega
          have p1 : (m : Int) + 1 < M.length := by omega
          have m0 : (0 : Int) ≤ m := by omega
          have m1 : (m : Int) < M.length := by omega
          cases hless : Op.bytesLess (atL M m).toList (atL M (m + 1)).toList with
          | true =>
            have HK : Hid (okN n f (p, M) (m + 1) = true) := by show _ = _; rw [HE.out, hless]
            clear HE
            generalize atL M (m + 1) = t at *
            generalize atL M m = s at *
            go_wp2_with fail
            refine KD.out.mono ?_
            rintro e w2 ⟨rfl, hb2⟩
            have x1 : w2.cell? ⟨w.heap.size, 1, none⟩ = some (.slice (some ⟨g, 0, none⟩) M.length cap) := ((bcell hb2).1 _ _ hbr).trans b1
            have x2 : w2.cell? ⟨g, m, none⟩ = some (.string s) := ((bcell hb2).1 _ _ hgr).trans hcm
            have B2 : Hid (Below w1.heap.size w1 w2) := HB.out.trans (hb2.mono HB.out.size)
            clear hb2
            go_wp2
            go_roundw
            case rel => exact ⟨m + 2, by omega, by go_num, B2, okN_succ HR.out HK.out⟩
            case measure => simp [intOf]; omega
          | false =>
            have HQ : Hid (R = false) := HN.out (m + 1) hlt (by rw [HE.out, hless])
            clear HE
            generalize atL M (m + 1) = t at *
            generalize atL M m = s at *
            go_wp2_with fail
            refine KD.out.mono ?_
            rintro e w2 ⟨rfl, hb2⟩
            have x1 : w2.cell? ⟨w.heap.size, 1, none⟩ = some (.slice (some ⟨g, 0, none⟩) M.length cap) := ((bcell hb2).1 _ _ hbr).trans b1
            have x2 : w2.cell? ⟨g, m, none⟩ = some (.string s) := ((bcell hb2).1 _ _ hgr).trans hcm
            have B2 : Hid (Below w.heap.size w w2) := (B1.out.trans (HB.out.mono B1.out.size)).trans (hb2.mono (Nat.le_of_lt hbr))
            clear hb2
            go_wp2
            go_ret
            exact ⟨ret_b HQ.out.symm, B2.out⟩
    · have HQ : Hid (R = true) := HY.out (fun i hi => HR.out i (by omega))
      go_wp2
      go_ret
      exact ⟨ret_b HQ.out.symm, B1.out.trans (HB.out.mono B1.out.size)⟩
end Go.Proofs.YtaccgciopmclhaaGreatDoor

/- The walk of the program's add. Written by impladd.py. -/
namespace Go.Proofs.YtaccgciopmclhaaGreatDoor
open Go.RowKit Go.Maps

theorem after_drew5 {w w' : World} (h : Below w.drew.heap.size w.drew w') : Below w.heap.size w w' := (Below.drew (Below.refl _ _)).trans h
/-- a set may come into a book -/
def addB (n : Nat) (f : Nat → ByteArray) (pl : ByteArray → Option Nat) (k : Nat) (x : SetL) : Bool := !(decide (k = 6)) && domsB n f x && newB pl k (allD x)
theorem domsB_sizes {n : Nat} {f : Nat → ByteArray} {x : SetL} (h : domsB n f x = true) : 0 < x.2.length ∧ x.2.length ≤ 4 ∧ x.1.size ≤ 100 ∧ ∀ i, i < x.2.length → (atL x.2 i).size ≤ 100 := by
  obtain ⟨h0, h1, h2, h3⟩ := domsB_parts h
  have hd : ∀ s, domR n f s = true → s.size ≤ 100 := fun s hs => by
    unfold domR at hs
    rw [Bool.and_eq_true] at hs
    exact (domB_size hs.2).2
  refine ⟨h1, h2, hd _ h0, fun i hi => ?_⟩
  have := h3 i hi
  unfold okN at this
  rw [Bool.and_eq_true] at this
  exact hd _ this.1
theorem infoSet6 : (Tryz.prog.info? 121).map (fun i => (i.zero, i.size, i.bytes)) = some (some (.agg #[.string ⟨#[]⟩, .slice none 0 0]), 2, 40) := by kernel_rfl
set_option maxRecDepth 10000 in
set_option maxHeartbeats 8000000 in
theorem add_any (B0 b bm N n B B' : Nat) (rv sv u : Value) (f : Nat → ByteArray) (T : List (SetL × Value)) (pl : ByteArray → Option Nat) (x : SetL) (w : World) (hG : MaxI w) (hr : SliceS w B rv n f) (l1 : n ≤ 1048576) (hf : ∀ i, i < n → (f i).size ≤ 1048576)
    (hs : SliceS w B' u x.2.length (atL x.2)) (hn : x.2.length ≤ 1048576) (hz1 : x.1.size ≤ 1048576) (hz : ∀ i, i < x.2.length → (atL x.2 i).size ≤ 1048576)
    (hB : BookR w B0 b bm rv T sv) (hm : MapIs w bm N pl) (hT : T.length ≤ 6) (hN : N ≤ 900) (e1 : ErrAt w 2) (e2 : ErrAt w 3) (e3 : ErrAt w 4) :
    Calls Tryz.prog 135 #[.pointer (some ⟨b, 0, none⟩), .agg #[.string x.1, u]] w fun e w' =>
      ((addB n f pl T.length x = true ∧ e = .returned .nilIface ∧ (∃ u' sv', BookR w' B0 b bm rv (T ++ [(x, u')]) sv') ∧ MapIs w' bm (N + 5) (plTo pl T.length (allD x) (allD x).length)) ∨ (addB n f pl T.length x = false ∧ (∃ ty v, e = .returned (.iface ty v)) ∧ BookR w' B0 b bm rv T sv ∧ MapIs w' bm (N + 5) pl)) ∧ Below B0 w w' := by
  obtain ⟨sp, sc, rfl⟩ : ∃ p c, sv = .slice p T.length c := by
    obtain ⟨_, ⟨rfl, h0⟩ | ⟨g, cap, cur, rfl, _⟩⟩ := hB.own
    · exact ⟨none, 0, by rw [h0]⟩
    · exact ⟨_, _, rfl⟩
  have HSx : Hid (SliceS w B' u x.2.length (atL x.2)) := hs
  obtain ⟨up, uc, rfl, -⟩ := hs
  have HBk : Hid (BookR w B0 b bm rv T (.slice sp T.length sc)) := hB
  have HMp : Hid (MapIs w bm N pl) := hm
  have HAdd : Hid (addB n f pl T.length x = (!(decide (T.length = 6)) && domsB n f x && newB pl T.length (allD x))) := rfl
  have KD : Hid (∀ W, Below w.heap.size w W → Calls Tryz.prog 172 #[rv, .agg #[.string x.1, .slice up x.2.length uc]] W fun e w' => e = .returned (.bool (domsB n f x)) ∧ Below W.heap.size W w') := fun W hb => domainsRight_any rv n B f x _ B' W (hG.on hb) (hr.below hb) l1 hf (HSx.out.below hb) hn hz1 hz
  have HSz : Hid (domsB n f x = true → 0 < x.2.length ∧ x.2.length ≤ 4 ∧ x.1.size ≤ 100 ∧ ∀ i, i < x.2.length → (atL x.2 i).size ≤ 100) := domsB_sizes
  obtain ⟨W0, hW⟩ : ∃ W0, W0 = w.alloc (.cells #[.string x.1, .slice up x.2.length uc] 121) := ⟨_, rfl⟩
  have hW0 : Hid (W0 = w.alloc (.cells #[.string x.1, .slice up x.2.length uc] 121)) := hW
  have HB0 : Hid (Below w.heap.size w W0) := by show Below _ _ _; rw [hW]; exact (Below.refl _ _).alloc (Nat.le_refl _) _
  have z0 : w.heap.size < W0.heap.size := by rw [hW]; simp
  have a0 : W0.cell? ⟨w.heap.size, 0, none⟩ = some (.string x.1) := by rw [hW]; simp
  have a1 : W0.cell? ⟨w.heap.size, 1, none⟩ = some (.slice up x.2.length uc) := by rw [hW]; simp
  have b0 : W0.cell? ⟨b, 0, none⟩ = some rv := (HBk.out.below HB0.out).c0
  have b1 : W0.cell? ⟨b, 1, none⟩ = some (.slice sp T.length sc) := (HBk.out.below HB0.out).c1
  have hbw : b < w.heap.size := World.block_lt_of_cell? w _ hB.c0
  have HRow : Hid (∀ g, (Value.slice sp T.length sc).ownBlock = some g → g < w.heap.size) := fun g e => (own_in5 hB.own e).2
  have hB0w : B0 ≤ w.heap.size := Nat.le_trans hB.hb (Nat.le_of_lt hbw)
  have E1 : Hid (ErrAt W0 2) := by obtain ⟨ty, v, h⟩ := e1; exact ⟨ty, v, ((bcell HB0.out).1 _ _ (World.block_lt_of_cell? w _ h)).trans h⟩
  have E2 : Hid (ErrAt w 3) := e2
  have E3 : Hid (ErrAt w 4) := e3
  have hrv : Hid (∃ p c, rv = .slice p n c) := by obtain ⟨p, c, e, -⟩ := hr; exact ⟨p, c, e⟩
  clear hW hG hr hf hB hm e1 e2 e3 hz hz1
  obtain ⟨rp, rc, rfl⟩ := hrv.out
  clear hrv
  generalize addB n f pl T.length x = R at *
  by_cases h6 : T.length = 6
  · have q6 : ((T.length : Int) == 6) = true := by rw [beq_iff_eq]; omega
    have HQ : Hid (R = false) := by show _ = _; rw [HAdd.out, decide_eq_true h6]; rfl
    obtain ⟨ety, ev, hev⟩ := E1.out
    have HF : Hid (BookR W0 B0 b bm (.slice rp n rc) T (.slice sp T.length sc) ∧ MapIs W0 bm (N + 5) pl ∧ Below B0 w W0) := ⟨HBk.out.below HB0.out, (HMp.out.below HB0.out).mono (by omega), HB0.out.mono hB0w⟩
    clear h6
    go_enter Tryz.func135, Tryz.ntmps135
    go_upto_region 1 with fail
    rw [← hW0.out]
    clear hW0
    go_wp2
    go_ret
    exact ⟨.inr ⟨HQ.out, ⟨_, _, rfl⟩, HF.out.1, HF.out.2.1⟩, HF.out.2.2⟩
  have q6 : ((T.length : Int) == 6) = false := by rw [beq_eq_false_iff_ne]; omega
  have HAdd2 : Hid (R = (domsB n f x && newB pl T.length (allD x))) := by show _ = _; rw [HAdd.out, decide_eq_false h6]; rfl
  clear HAdd h6
  have KD1 : Hid (∀ W, Below W0.heap.size W0 W → Calls Tryz.prog 172 #[.slice rp n rc, .agg #[.string x.1, .slice up x.2.length uc]] W fun e w' => e = .returned (.bool (domsB n f x)) ∧ Below W.heap.size W w') := fun W hb => KD.out W (HB0.out.trans (hb.mono HB0.out.size))
  clear KD
  generalize domsB n f x = bd at *
  go_enter Tryz.func135, Tryz.ntmps135
  go_upto_region 1 with fail
  rw [← hW0.out]
  clear hW0
  go_wp2_with fail
  have hbW : b < W0.heap.size := Nat.lt_trans hbw z0
  go_region_held3 (fun w' => w'.cell? ⟨b, 0, none⟩ = some (.slice rp n rc) ∧ w'.cell? ⟨w.heap.size, 0, none⟩ = some (.string x.1) ∧ w'.cell? ⟨w.heap.size, 1, none⟩ = some (.slice up x.2.length uc)) (go_keep)
    (first | (go_at_call 172; refine (KD1.out _ (Below.drew (Below.refl _ _))).mono ?_; rintro e w1 ⟨rfl, hb1⟩; have A1 : Below W0.heap.size W0 w1 := after_drew5 hb1; have l0 : w1.cell? ⟨b, 0, none⟩ = some (.slice rp n rc) := ((bcell A1).1 _ _ hbW).trans b0; have l1 : w1.cell? ⟨w.heap.size, 0, none⟩ = some (.string x.1) := ((bcell A1).1 _ _ z0).trans a0; have l2 : w1.cell? ⟨w.heap.size, 1, none⟩ = some (.slice up x.2.length uc) := ((bcell A1).1 _ _ z0).trans a1))
  have B1 : Hid (Below w.heap.size w w1) := HB0.out.trans (A1.mono HB0.out.size)
  have z1 : w.heap.size < w1.heap.size := Nat.lt_of_lt_of_le z0 A1.size
  clear hb1 A1 a0 a1 b0 b1 KD1 E1
  cases bd with
  | false =>
    have HQ : Hid (R = false) := by show _ = _; rw [HAdd2.out]; rfl
    have E21 : ErrAt w1 3 := by obtain ⟨ty, v, h⟩ := E2.out; exact ⟨ty, v, ((bcell B1.out).1 _ _ (World.block_lt_of_cell? w _ h)).trans h⟩
    obtain ⟨ety, ev, hev⟩ := E21
    have HF : Hid (BookR w1 B0 b bm (.slice rp n rc) T (.slice sp T.length sc) ∧ MapIs w1 bm (N + 5) pl ∧ Below B0 w w1) := ⟨HBk.out.below B1.out, (HMp.out.below B1.out).mono (by omega), B1.out.mono hB0w⟩
    go_wp2
    go_ret
    exact ⟨.inr ⟨HQ.out, ⟨_, _, rfl⟩, HF.out.1, HF.out.2.1⟩, HF.out.2.2⟩
  | true =>
    obtain ⟨hx0, hx4, hxp, hxm⟩ := HSz.out rfl
    have Bk1 : Hid (BookR w1 B0 b bm (.slice rp n rc) T (.slice sp T.length sc)) := HBk.out.below B1.out
    have M1 : Hid (MapIs w1 bm N pl) := HMp.out.below B1.out
    have S1 : Hid (SliceS w1 B' (.slice up x.2.length uc) x.2.length (atL x.2)) := HSx.out.below B1.out
    have KT : Hid (Calls Tryz.prog 173 #[.pointer (some ⟨b, 0, none⟩), .agg #[.string x.1, .slice up x.2.length uc]] w1 fun e w' =>
      ((newB pl T.length (allD x) = true ∧ e = .returned .nilIface ∧ MapIs w' bm (N + 5) (plTo pl T.length (allD x) (allD x).length)) ∨ (newB pl T.length (allD x) = false ∧ (∃ ty v, e = .returned (.iface ty v)) ∧ MapIs w' bm (N + 5) pl)) ∧ w1.grownBy w' (some bm)) := take_any b bm N T.length sc sp x _ B' pl w1 S1.out hx0 hx4 (by omega) (fun i hi => by have := hxm i hi; omega) Bk1.out.c1 Bk1.out.c2 M1.out (by omega) (by omega) (by obtain ⟨ty, v, h⟩ := E3.out; exact ⟨ty, v, ((bcell B1.out).1 _ _ (World.block_lt_of_cell? w _ h)).trans h⟩)
    have HXS : Hid (x.1.size ≤ 1000 ∧ ∀ i, i < x.2.length → (atL x.2 i).size ≤ 1000) := ⟨by omega, fun i hi => by have := hxm i hi; omega⟩
    clear hxm hxp HSz HSx HBk HMp E2 E3
    generalize newB pl T.length (allD x) = bn at *
    go_wp2_with fail
    refine KT.out.mono ?_
    rintro e w2 ⟨hres, hg2⟩
    have hbm1 : w.heap.size ≠ bm := M1.out.ne l1
    have m1 : w2.cell? ⟨w.heap.size, 0, none⟩ = some (.string x.1) := grown_cell hg2 l1 hbm1
    have m2 : w2.cell? ⟨w.heap.size, 1, none⟩ = some (.slice up x.2.length uc) := grown_cell hg2 l2 hbm1
    have Bk2 : Hid (BookR w2 B0 b bm (.slice rp n rc) T (.slice sp T.length sc)) := Bk1.out.turned M1.out hg2
    have S2 : Hid (SliceS w2 B' (.slice up x.2.length uc) x.2.length (atL x.2)) := S1.out.keepG hg2 (fun h => by obtain ⟨g, e, -, -, hc⟩ := S1.out.place h; rw [e]; intro e2; exact M1.out.ne hc (Option.some.inj e2))
    have B2 : Hid (Below B0 w w2) := (B1.out.mono hB0w).grown hg2 (Nat.le_trans hB0w B1.out.size) (fun j hj => by have := Option.some.inj hj; have := Bk1.out.hbm; omega)
    have z2 : w.heap.size < w2.heap.size := Nat.lt_of_lt_of_le z1 hg2.size
    clear hg2 KT S1 Bk1 M1 l0 l1 l2
    rcases hres with ⟨rfl, rfl, hm2⟩ | ⟨rfl, ⟨ty, v, rfl⟩, hm2⟩
    case inr =>
      have HQ : Hid (R = false) := by show _ = _; rw [HAdd2.out]; rfl
      have HF : Hid (MapIs w2 bm (N + 5) pl) := hm2
      clear hm2
      go_wp2
      go_ret
      exact ⟨.inr ⟨HQ.out, ⟨_, _, rfl⟩, Bk2.out, HF.out⟩, B2.out⟩
    case inl =>
      have HQ : Hid (R = true) := by show _ = _; rw [HAdd2.out]; rfl
      have M2 : Hid (MapIs w2 bm (N + 5) (plTo pl T.length (allD x) (allD x).length)) := hm2
      have KC : Hid (∀ W, Below w2.heap.size w2 W → Calls Tryz.prog 160 #[.agg #[.string x.1, .slice up x.2.length uc]] W fun e w' => ∃ p c, e = .returned (.agg #[.string x.1, .slice p x.2.length c]) ∧ SliceS w' W.heap.size (.slice p x.2.length c) x.2.length (atL x.2) ∧ Below W.heap.size W w') := fun W hb => setCopy_any x _ B' W (S2.out.below hb) hx0 (by omega) HXS.out.1 HXS.out.2
      have c1 : w2.cell? ⟨b, 1, none⟩ = some (.slice sp T.length sc) := Bk2.out.c1
      have cf := Bk2.out.fz 1
      have hb2 : b < w2.heap.size := Nat.lt_trans hbw z2
      have hfar : ¬ b = w.heap.size := by omega
      have nb : (Value.slice sp T.length sc).ownBlock ≠ some b := Bk2.out.nb
      have nx : (Value.slice sp T.length sc).ownBlock ≠ some w.heap.size := fun e => by have := HRow.out _ e; omega
      obtain ⟨i0, hi, hy0, hy1, hy2⟩ := info_parts infoSet6
      have HT4 : Hid ((T.length + 1) * 40 ≤ 140737488355328 ∧ T.length + 1 ≤ maxLen) := by show _ ∧ _; unfold maxLen; omega
      clear hm2 S2 HXS
      go_wp2_with fail
      refine wp_region_held_drew (S := (fun w' => w'.cell? ⟨w.heap.size, 0, none⟩ = some (.string x.1) ∧ w'.cell? ⟨w.heap.size, 1, none⟩ = some (.slice up x.2.length uc))) (by kernel_rfl) ?_ (fun hH0 => ?_)
      · (try dsimp only)
        first | go_keep | (refine ⟨?_, ?_⟩ <;> assumption) | (refine ⟨?_, ?_⟩ <;> (rw [World.cell?_setCell_far _ _ _ _ hfar]; assumption))
      refine wpAnyH_take (i := 0) (oi := { dst := some 27, op := Op.move (Operand.tmp 0), type := 205, pos := "l05_related.go:79", after := #[], guard := none }) (v := ?va1) rfl (by kernel_rfl) (by kernel_rfl) (by kernel_rfl) (fun _ _ _ h => h) (Or.inl ⟨by rfl, ?hya1⟩) (by assumption) ?resta1
      case hya1 =>
        intro w hSw
        (try dsimp only at hSw)
        go_simp
        try with_reducible rfl
      try simp only [Act.put, List.setIfInBounds_toArray, List.set_cons_zero, List.set_cons_succ]
      refine wpAnyH_take (i := 1) (oi := { dst := some 28, op := Op.move (Operand.tmp 0), type := 205, pos := "l05_related.go:79", after := #[], guard := none }) (v := ?va2) rfl (by kernel_rfl) (by kernel_rfl) (by kernel_rfl) (fun _ _ _ h => h) (Or.inl ⟨by rfl, ?hya2⟩) (by assumption) ?resta2
      case hya2 =>
        intro w hSw
        (try dsimp only at hSw)
        go_simp
        try with_reducible rfl
      try simp only [Act.put, List.setIfInBounds_toArray, List.set_cons_zero, List.set_cons_succ]
      refine wpAnyH_take (i := 2) (oi := { dst := some 29, op := Op.nilCheck (Operand.tmp 28), type := 0, pos := "l05_related.go:79", after := #[{ on := 1, ground := Ground.data }], guard := none }) (v := ?va3) rfl (by kernel_rfl) (by kernel_rfl) (by kernel_rfl) (fun _ _ _ h => h) (Or.inl ⟨by rfl, ?hya3⟩) (by assumption) ?resta3
      case hya3 =>
        intro w hSw
        (try dsimp only at hSw)
        go_simp
        try with_reducible rfl
      try simp only [Act.put, List.setIfInBounds_toArray, List.set_cons_zero, List.set_cons_succ]
      refine wpAnyH_take (i := 3) (oi := { dst := some 30, op := Op.fieldAddr 139 (Operand.tmp 29) 1, type := 0, pos := "l05_related.go:79", after := #[{ on := 2, ground := Ground.data }], guard := none }) (v := ?va4) rfl (by kernel_rfl) (by kernel_rfl) (by kernel_rfl) (fun _ _ _ h => h) (Or.inl ⟨by rfl, ?hya4⟩) (by assumption) ?resta4
      case hya4 =>
        intro w hSw
        (try dsimp only at hSw)
        go_simp
        try with_reducible rfl
      try simp only [Act.put, List.setIfInBounds_toArray, List.set_cons_zero, List.set_cons_succ]
      refine wpAnyH_take (i := 5) (oi := { dst := some 32, op := Op.load 121 (Operand.tmp 3), type := 121, pos := "l05_related.go:79", after := #[], guard := none }) (v := ?va5) rfl (by kernel_rfl) (by kernel_rfl) (by kernel_rfl) (fun _ _ _ h => h) (Or.inl ⟨by rfl, ?hya5⟩) (by assumption) ?resta5
      case hya5 =>
        intro w hSw
        (try dsimp only at hSw)
        go_simp
        try with_reducible rfl
      try simp only [Act.put, List.setIfInBounds_toArray, List.set_cons_zero, List.set_cons_succ]
      refine wpAnyH_ready (rs := [4, 6]) (by kernel_rfl) (by simp) ?_
      refine AllReadyH.cons (o := { dst := some 31, op := Op.load 32 (Operand.tmp 30), type := 32, pos := "l05_related.go:79", after := #[{ on := 3, ground := Ground.data }], guard := none }) rfl (fun K hK => ?_) (AllReadyH.cons (o := { dst := some 33, op := Op.call { callee := Callee.value (Operand.func 160), args := #[Operand.tmp 32], argTypes := #[121] }, type := 121, pos := "l05_related.go:79", after := #[{ on := 5, ground := Ground.data }], guard := none }) rfl (fun K hK => ?_) AllReadyH.nil)
      · skip
        go_simp
        try (go_wp2_with fail)
        refine hK.out _ _ ?_ (fun hH1 => ?_)
        · (try dsimp only)
          first | go_keep | (refine ⟨?_, ?_⟩ <;> assumption) | (refine ⟨?_, ?_⟩ <;> (rw [World.cell?_setCell_far _ _ _ _ hfar]; assumption))
        clear hK K hH0
        try simp only [Act.put, List.setIfInBounds_toArray, List.set_cons_zero, List.set_cons_succ]
        refine wpAnyH_ready (rs := [6]) (by kernel_rfl) (by simp) ?_
        refine AllReadyH.cons (o := { dst := some 33, op := Op.call { callee := Callee.value (Operand.func 160), args := #[Operand.tmp 32], argTypes := #[121] }, type := 121, pos := "l05_related.go:79", after := #[{ on := 5, ground := Ground.data }], guard := none }) rfl (fun K hK => ?_) AllReadyH.nil
        · skip
          go_simp
          (go_at_call 160; refine (KC.out _ (Below.drew (Below.refl _ _))).mono ?_; rintro e w3 ⟨cp, cc, rfl, hs3, hb3⟩; have A3 : Below w2.heap.size w2 w3 := after_drew5 hb3; have hz3 : w2.heap.size ≤ w3.heap.size := A3.size; have d0 : w3.cell? ⟨w.heap.size, 0, none⟩ = some (.string x.1) := ((bcell A3).1 _ _ z2).trans m1; have d2 : w3.cell? ⟨w.heap.size, 1, none⟩ = some (.slice up x.2.length uc) := ((bcell A3).1 _ _ z2).trans m2; have d1 : w3.cell? ⟨b, 1, none⟩ = some (.slice sp T.length sc) := ((bcell A3).1 _ _ hb2).trans c1; have S3 : Hid (SliceS w3 w2.heap.size (.slice cp x.2.length cc) x.2.length (atL x.2)) := hs3; have O3 : Hid (w3.ownsRow B0 121 2 (.slice sp T.length sc) T.length (setCs T)) := ownR_below Bk2.out.own A3; have da : ∀ o, (w3.alloc o).cell? ⟨b, 1, none⟩ = some (.slice sp T.length sc) := fun o => ((bcell ((Below.refl w3.heap.size w3).alloc (Nat.le_refl _) o)).1 _ _ (Nat.lt_of_lt_of_le hb2 hz3)).trans d1; have dx0 : ∀ o, (w3.alloc o).cell? ⟨w.heap.size, 0, none⟩ = some (.string x.1) := fun o => ((bcell ((Below.refl w3.heap.size w3).alloc (Nat.le_refl _) o)).1 _ _ (Nat.lt_of_lt_of_le z2 hz3)).trans d0; have dx1 : ∀ o, (w3.alloc o).cell? ⟨w.heap.size, 1, none⟩ = some (.slice up x.2.length uc) := fun o => ((bcell ((Below.refl w3.heap.size w3).alloc (Nat.le_refl _) o)).1 _ _ (Nat.lt_of_lt_of_le z2 hz3)).trans d2; clear hb3 hs3)
          try (go_wp2_with fail)
          refine hK.out _ _ ?_ (fun hH2 => ?_)
          · (try dsimp only)
            first | go_keep | (refine ⟨?_, ?_⟩ <;> assumption) | (refine ⟨?_, ?_⟩ <;> (rw [World.cell?_setCell_far _ _ _ _ hfar]; assumption))
          clear hK K hH1
          try simp only [Act.put, List.setIfInBounds_toArray, List.set_cons_zero, List.set_cons_succ]
          refine wpAnyH_ready (rs := [7]) (by kernel_rfl) (by simp) ?_
          refine AllReadyH.cons (o := { dst := some 34, op := Op.buildSlice 32 1 #[(0, Operand.tmp 33)], type := 32, pos := "l05_related.go:79", after := #[{ on := 6, ground := Ground.data }], guard := none }) rfl (fun K hK => ?_) AllReadyH.nil
          · skip
            go_simp
            try (go_wp2_with fail)
            refine hK.out _ _ ?_ (fun hH3 => ?_)
            · (try dsimp only)
              first | go_keep | (refine ⟨?_, ?_⟩ <;> assumption) | (refine ⟨?_, ?_⟩ <;> (rw [World.cell?_setCell_far _ _ _ _ hfar]; assumption))
            clear hK K hH2
            try simp only [Act.put, List.setIfInBounds_toArray, List.set_cons_zero, List.set_cons_succ]
            refine wpAnyH_ready (rs := [8]) (by kernel_rfl) (by simp) ?_
            refine AllReadyH.cons (o := { dst := some 35, op := Op.call { callee := Callee.builtin Builtin.append, args := #[Operand.tmp 31, Operand.tmp 34], argTypes := #[32, 32] }, type := 32, pos := "l05_related.go:79", after := #[{ on := 4, ground := Ground.data }, { on := 7, ground := Ground.data }, { on := 6, ground := Ground.chain }], guard := none }) rfl (fun K hK => ?_) AllReadyH.nil
            · skip
              (refine step_append_lies _ (by rfl) _ _ _ (by rfl) B0 121 i0 (.agg #[.string ⟨#[]⟩, .slice none 0 0]) 2 40 Tryz.underlying32 hi hy0 hy1 hy2 rfl (by omega) (.slice sp T.length sc) T.length (setCs T) (by rfl) (O3.out.alloc _) ⟨w3.heap.size, 0, none⟩ 1 1 [.string x.1, .slice cp x.2.length cc] (by rfl) (by rfl) (World.news_of_block (cs := #[.string x.1, .slice cp x.2.length cc]) (t := 121) (fr := (0, 0)) (heap_alloc_new w3 _)) (by simp [Value.oneCell']) (by omega) HT4.out.2 HT4.out.1 (by simp; omega) (w3.heap.size + 1) (by simp) ?_; intro gg cap w4 hown4 hgrow hat hlt4; have e0 : w4.cell? ⟨b, 1, none⟩ = some (.slice sp T.length sc) := hgrow.cell (da _) (Ne.symm nb); have ex0 : w4.cell? ⟨w.heap.size, 0, none⟩ = some (.string x.1) := hgrow.cell (dx0 _) (Ne.symm nx); have ex1 : w4.cell? ⟨w.heap.size, 1, none⟩ = some (.slice up x.2.length uc) := hgrow.cell (dx1 _) (Ne.symm nx); have ef : w4.frozen? ⟨b, 1, none⟩ = false := by (rw [World.frozen?_of_block (a := ⟨b, 1, none⟩) (hgrow.block b (by simp; omega) (Ne.symm nb))]; exact ((bcell ((Below.refl w3.heap.size w3).alloc (Nat.le_refl _) _)).2 _ _ (Nat.lt_of_lt_of_le hb2 hz3)).trans (((bcell A3).2 _ _ hb2).trans cf)))
              refine hK.out _ _ ?_ (fun hH4 => ?_)
              · (try dsimp only)
                first | go_keep | (refine ⟨?_, ?_⟩ <;> assumption) | (refine ⟨?_, ?_⟩ <;> (rw [World.cell?_setCell_far _ _ _ _ hfar]; assumption))
              clear hK K hH3
              try simp only [Act.put, List.setIfInBounds_toArray, List.set_cons_zero, List.set_cons_succ]
              refine wpAnyH_take (i := 9) (oi := { dst := some 36, op := Op.nilCheck (Operand.tmp 27), type := 0, pos := "l05_related.go:79", after := #[{ on := 0, ground := Ground.data }, { on := 0, ground := Ground.phase }, { on := 1, ground := Ground.phase }, { on := 2, ground := Ground.phase }, { on := 3, ground := Ground.phase }, { on := 4, ground := Ground.phase }, { on := 5, ground := Ground.phase }, { on := 6, ground := Ground.phase }, { on := 7, ground := Ground.phase }, { on := 8, ground := Ground.phase }], guard := none }) (v := ?va6) rfl (by kernel_rfl) (by kernel_rfl) (by kernel_rfl) (fun _ _ _ h => h) (Or.inl ⟨by rfl, ?hya6⟩) (by assumption) ?resta6
              case hya6 =>
                intro w hSw
                (try dsimp only at hSw)
                go_simp
                try with_reducible rfl
              try simp only [Act.put, List.setIfInBounds_toArray, List.set_cons_zero, List.set_cons_succ]
              refine wpAnyH_take (i := 10) (oi := { dst := some 37, op := Op.fieldAddr 139 (Operand.tmp 36) 1, type := 0, pos := "l05_related.go:79", after := #[{ on := 9, ground := Ground.data }, { on := 0, ground := Ground.phase }, { on := 1, ground := Ground.phase }, { on := 2, ground := Ground.phase }, { on := 3, ground := Ground.phase }, { on := 4, ground := Ground.phase }, { on := 5, ground := Ground.phase }, { on := 6, ground := Ground.phase }, { on := 7, ground := Ground.phase }, { on := 8, ground := Ground.phase }], guard := none }) (v := ?va7) rfl (by kernel_rfl) (by kernel_rfl) (by kernel_rfl) (fun _ _ _ h => h) (Or.inl ⟨by rfl, ?hya7⟩) (by assumption) ?resta7
              case hya7 =>
                intro w hSw
                (try dsimp only at hSw)
                go_simp
                try with_reducible rfl
              try simp only [Act.put, List.setIfInBounds_toArray, List.set_cons_zero, List.set_cons_succ]
              refine wpAnyH_ready (rs := [11]) (by kernel_rfl) (by simp) ?_
              refine AllReadyH.cons (o := { dst := none, op := Op.store 32 (Operand.tmp 37) (Operand.tmp 35), type := 0, pos := "l05_related.go:79", after := #[{ on := 10, ground := Ground.data }, { on := 8, ground := Ground.data }, { on := 8, ground := Ground.chain }, { on := 0, ground := Ground.phase }, { on := 1, ground := Ground.phase }, { on := 2, ground := Ground.phase }, { on := 3, ground := Ground.phase }, { on := 4, ground := Ground.phase }, { on := 5, ground := Ground.phase }, { on := 6, ground := Ground.phase }, { on := 7, ground := Ground.phase }, { on := 8, ground := Ground.phase }], guard := none }) rfl (fun K hK => ?_) AllReadyH.nil
              · skip
                go_simp
                try (go_wp2_with fail)
                refine hK.out _ _ ?_ (fun hH5 => ?_)
                · (try dsimp only)
                  first | go_keep | (refine ⟨?_, ?_⟩ <;> assumption) | (refine ⟨?_, ?_⟩ <;> (rw [World.cell?_setCell_far _ _ _ _ hfar]; assumption))
                clear hK K hH4
                try simp only [Act.put, List.setIfInBounds_toArray, List.set_cons_zero, List.set_cons_succ]
                refine wpAnyH_done (by kernel_rfl) ?_ _
                go_wp2
                go_ret
                have BkF := BookR.push Bk2.out A3 S3.out hx0 hown4 hgrow hat
                have MF : MapIs (w4.setCell ⟨b, 1, none⟩ (.slice (some ⟨gg, 0, none⟩) (T.length + 1) cap)) bm (N + 5) (plTo pl T.length (allD x) (allD x).length) := ((((M2.out.below A3).below ((Below.refl _ _).alloc (Nat.le_refl _) _)).kept hgrow (fun e => (own_ne_map Bk2.out.own M2.out e.symm) rfl)).far (fun e => M2.out.ne c1 e.symm))
                have BF : Below B0 w (w4.setCell ⟨b, 1, none⟩ (.slice (some ⟨gg, 0, none⟩) (T.length + 1) cap)) := Below.setCell (((B2.out.trans (A3.mono (Nat.le_trans hB0w (Nat.le_of_lt z2)))).alloc (Nat.le_trans hB0w (Nat.le_trans (Nat.le_of_lt z2) hz3)) _).grown hgrow (Nat.le_trans hB0w (Nat.le_trans (Nat.le_of_lt z2) (by simp; omega))) (fun j hj => (own_in5 Bk2.out.own hj).1)) Bk2.out.hb _
                exact ⟨.inl ⟨HQ.out, rfl, ⟨_, _, BkF⟩, MF⟩, BF⟩
      · skip
        go_simp
        (go_at_call 160; refine (KC.out _ (Below.drew (Below.refl _ _))).mono ?_; rintro e w3 ⟨cp, cc, rfl, hs3, hb3⟩; have A3 : Below w2.heap.size w2 w3 := after_drew5 hb3; have hz3 : w2.heap.size ≤ w3.heap.size := A3.size; have d0 : w3.cell? ⟨w.heap.size, 0, none⟩ = some (.string x.1) := ((bcell A3).1 _ _ z2).trans m1; have d2 : w3.cell? ⟨w.heap.size, 1, none⟩ = some (.slice up x.2.length uc) := ((bcell A3).1 _ _ z2).trans m2; have d1 : w3.cell? ⟨b, 1, none⟩ = some (.slice sp T.length sc) := ((bcell A3).1 _ _ hb2).trans c1; have S3 : Hid (SliceS w3 w2.heap.size (.slice cp x.2.length cc) x.2.length (atL x.2)) := hs3; have O3 : Hid (w3.ownsRow B0 121 2 (.slice sp T.length sc) T.length (setCs T)) := ownR_below Bk2.out.own A3; have da : ∀ o, (w3.alloc o).cell? ⟨b, 1, none⟩ = some (.slice sp T.length sc) := fun o => ((bcell ((Below.refl w3.heap.size w3).alloc (Nat.le_refl _) o)).1 _ _ (Nat.lt_of_lt_of_le hb2 hz3)).trans d1; have dx0 : ∀ o, (w3.alloc o).cell? ⟨w.heap.size, 0, none⟩ = some (.string x.1) := fun o => ((bcell ((Below.refl w3.heap.size w3).alloc (Nat.le_refl _) o)).1 _ _ (Nat.lt_of_lt_of_le z2 hz3)).trans d0; have dx1 : ∀ o, (w3.alloc o).cell? ⟨w.heap.size, 1, none⟩ = some (.slice up x.2.length uc) := fun o => ((bcell ((Below.refl w3.heap.size w3).alloc (Nat.le_refl _) o)).1 _ _ (Nat.lt_of_lt_of_le z2 hz3)).trans d2; clear hb3 hs3)
        try (go_wp2_with fail)
        refine hK.out _ _ ?_ (fun hH1 => ?_)
        · (try dsimp only)
          first | go_keep | (refine ⟨?_, ?_⟩ <;> assumption) | (refine ⟨?_, ?_⟩ <;> (rw [World.cell?_setCell_far _ _ _ _ hfar]; assumption))
        clear hK K hH0
        try simp only [Act.put, List.setIfInBounds_toArray, List.set_cons_zero, List.set_cons_succ]
        refine wpAnyH_ready (rs := [4, 7]) (by kernel_rfl) (by simp) ?_
        refine AllReadyH.cons (o := { dst := some 31, op := Op.load 32 (Operand.tmp 30), type := 32, pos := "l05_related.go:79", after := #[{ on := 3, ground := Ground.data }], guard := none }) rfl (fun K hK => ?_) (AllReadyH.cons (o := { dst := some 34, op := Op.buildSlice 32 1 #[(0, Operand.tmp 33)], type := 32, pos := "l05_related.go:79", after := #[{ on := 6, ground := Ground.data }], guard := none }) rfl (fun K hK => ?_) AllReadyH.nil)
        · skip
          go_simp
          try (go_wp2_with fail)
          refine hK.out _ _ ?_ (fun hH2 => ?_)
          · (try dsimp only)
            first | go_keep | (refine ⟨?_, ?_⟩ <;> assumption) | (refine ⟨?_, ?_⟩ <;> (rw [World.cell?_setCell_far _ _ _ _ hfar]; assumption))
          clear hK K hH1
          try simp only [Act.put, List.setIfInBounds_toArray, List.set_cons_zero, List.set_cons_succ]
          refine wpAnyH_ready (rs := [7]) (by kernel_rfl) (by simp) ?_
          refine AllReadyH.cons (o := { dst := some 34, op := Op.buildSlice 32 1 #[(0, Operand.tmp 33)], type := 32, pos := "l05_related.go:79", after := #[{ on := 6, ground := Ground.data }], guard := none }) rfl (fun K hK => ?_) AllReadyH.nil
          · skip
            go_simp
            try (go_wp2_with fail)
            refine hK.out _ _ ?_ (fun hH3 => ?_)
            · (try dsimp only)
              first | go_keep | (refine ⟨?_, ?_⟩ <;> assumption) | (refine ⟨?_, ?_⟩ <;> (rw [World.cell?_setCell_far _ _ _ _ hfar]; assumption))
            clear hK K hH2
            try simp only [Act.put, List.setIfInBounds_toArray, List.set_cons_zero, List.set_cons_succ]
            refine wpAnyH_ready (rs := [8]) (by kernel_rfl) (by simp) ?_
            refine AllReadyH.cons (o := { dst := some 35, op := Op.call { callee := Callee.builtin Builtin.append, args := #[Operand.tmp 31, Operand.tmp 34], argTypes := #[32, 32] }, type := 32, pos := "l05_related.go:79", after := #[{ on := 4, ground := Ground.data }, { on := 7, ground := Ground.data }, { on := 6, ground := Ground.chain }], guard := none }) rfl (fun K hK => ?_) AllReadyH.nil
            · skip
              (refine step_append_lies _ (by rfl) _ _ _ (by rfl) B0 121 i0 (.agg #[.string ⟨#[]⟩, .slice none 0 0]) 2 40 Tryz.underlying32 hi hy0 hy1 hy2 rfl (by omega) (.slice sp T.length sc) T.length (setCs T) (by rfl) (O3.out.alloc _) ⟨w3.heap.size, 0, none⟩ 1 1 [.string x.1, .slice cp x.2.length cc] (by rfl) (by rfl) (World.news_of_block (cs := #[.string x.1, .slice cp x.2.length cc]) (t := 121) (fr := (0, 0)) (heap_alloc_new w3 _)) (by simp [Value.oneCell']) (by omega) HT4.out.2 HT4.out.1 (by simp; omega) (w3.heap.size + 1) (by simp) ?_; intro gg cap w4 hown4 hgrow hat hlt4; have e0 : w4.cell? ⟨b, 1, none⟩ = some (.slice sp T.length sc) := hgrow.cell (da _) (Ne.symm nb); have ex0 : w4.cell? ⟨w.heap.size, 0, none⟩ = some (.string x.1) := hgrow.cell (dx0 _) (Ne.symm nx); have ex1 : w4.cell? ⟨w.heap.size, 1, none⟩ = some (.slice up x.2.length uc) := hgrow.cell (dx1 _) (Ne.symm nx); have ef : w4.frozen? ⟨b, 1, none⟩ = false := by (rw [World.frozen?_of_block (a := ⟨b, 1, none⟩) (hgrow.block b (by simp; omega) (Ne.symm nb))]; exact ((bcell ((Below.refl w3.heap.size w3).alloc (Nat.le_refl _) _)).2 _ _ (Nat.lt_of_lt_of_le hb2 hz3)).trans (((bcell A3).2 _ _ hb2).trans cf)))
              refine hK.out _ _ ?_ (fun hH4 => ?_)
              · (try dsimp only)
                first | go_keep | (refine ⟨?_, ?_⟩ <;> assumption) | (refine ⟨?_, ?_⟩ <;> (rw [World.cell?_setCell_far _ _ _ _ hfar]; assumption))
              clear hK K hH3
              try simp only [Act.put, List.setIfInBounds_toArray, List.set_cons_zero, List.set_cons_succ]
              refine wpAnyH_take (i := 9) (oi := { dst := some 36, op := Op.nilCheck (Operand.tmp 27), type := 0, pos := "l05_related.go:79", after := #[{ on := 0, ground := Ground.data }, { on := 0, ground := Ground.phase }, { on := 1, ground := Ground.phase }, { on := 2, ground := Ground.phase }, { on := 3, ground := Ground.phase }, { on := 4, ground := Ground.phase }, { on := 5, ground := Ground.phase }, { on := 6, ground := Ground.phase }, { on := 7, ground := Ground.phase }, { on := 8, ground := Ground.phase }], guard := none }) (v := ?va8) rfl (by kernel_rfl) (by kernel_rfl) (by kernel_rfl) (fun _ _ _ h => h) (Or.inl ⟨by rfl, ?hya8⟩) (by assumption) ?resta8
              case hya8 =>
                intro w hSw
                (try dsimp only at hSw)
                go_simp
                try with_reducible rfl
              try simp only [Act.put, List.setIfInBounds_toArray, List.set_cons_zero, List.set_cons_succ]
              refine wpAnyH_take (i := 10) (oi := { dst := some 37, op := Op.fieldAddr 139 (Operand.tmp 36) 1, type := 0, pos := "l05_related.go:79", after := #[{ on := 9, ground := Ground.data }, { on := 0, ground := Ground.phase }, { on := 1, ground := Ground.phase }, { on := 2, ground := Ground.phase }, { on := 3, ground := Ground.phase }, { on := 4, ground := Ground.phase }, { on := 5, ground := Ground.phase }, { on := 6, ground := Ground.phase }, { on := 7, ground := Ground.phase }, { on := 8, ground := Ground.phase }], guard := none }) (v := ?va9) rfl (by kernel_rfl) (by kernel_rfl) (by kernel_rfl) (fun _ _ _ h => h) (Or.inl ⟨by rfl, ?hya9⟩) (by assumption) ?resta9
              case hya9 =>
                intro w hSw
                (try dsimp only at hSw)
                go_simp
                try with_reducible rfl
              try simp only [Act.put, List.setIfInBounds_toArray, List.set_cons_zero, List.set_cons_succ]
              refine wpAnyH_ready (rs := [11]) (by kernel_rfl) (by simp) ?_
              refine AllReadyH.cons (o := { dst := none, op := Op.store 32 (Operand.tmp 37) (Operand.tmp 35), type := 0, pos := "l05_related.go:79", after := #[{ on := 10, ground := Ground.data }, { on := 8, ground := Ground.data }, { on := 8, ground := Ground.chain }, { on := 0, ground := Ground.phase }, { on := 1, ground := Ground.phase }, { on := 2, ground := Ground.phase }, { on := 3, ground := Ground.phase }, { on := 4, ground := Ground.phase }, { on := 5, ground := Ground.phase }, { on := 6, ground := Ground.phase }, { on := 7, ground := Ground.phase }, { on := 8, ground := Ground.phase }], guard := none }) rfl (fun K hK => ?_) AllReadyH.nil
              · skip
                go_simp
                try (go_wp2_with fail)
                refine hK.out _ _ ?_ (fun hH5 => ?_)
                · (try dsimp only)
                  first | go_keep | (refine ⟨?_, ?_⟩ <;> assumption) | (refine ⟨?_, ?_⟩ <;> (rw [World.cell?_setCell_far _ _ _ _ hfar]; assumption))
                clear hK K hH4
                try simp only [Act.put, List.setIfInBounds_toArray, List.set_cons_zero, List.set_cons_succ]
                refine wpAnyH_done (by kernel_rfl) ?_ _
                go_wp2
                go_ret
                have BkF := BookR.push Bk2.out A3 S3.out hx0 hown4 hgrow hat
                have MF : MapIs (w4.setCell ⟨b, 1, none⟩ (.slice (some ⟨gg, 0, none⟩) (T.length + 1) cap)) bm (N + 5) (plTo pl T.length (allD x) (allD x).length) := ((((M2.out.below A3).below ((Below.refl _ _).alloc (Nat.le_refl _) _)).kept hgrow (fun e => (own_ne_map Bk2.out.own M2.out e.symm) rfl)).far (fun e => M2.out.ne c1 e.symm))
                have BF : Below B0 w (w4.setCell ⟨b, 1, none⟩ (.slice (some ⟨gg, 0, none⟩) (T.length + 1) cap)) := Below.setCell (((B2.out.trans (A3.mono (Nat.le_trans hB0w (Nat.le_of_lt z2)))).alloc (Nat.le_trans hB0w (Nat.le_trans (Nat.le_of_lt z2) hz3)) _).grown hgrow (Nat.le_trans hB0w (Nat.le_trans (Nat.le_of_lt z2) (by simp; omega))) (fun j hj => (own_in5 Bk2.out.own hj).1)) Bk2.out.hb _
                exact ⟨.inl ⟨HQ.out, rfl, ⟨_, _, BkF⟩, MF⟩, BF⟩
        · skip
          go_simp
          try (go_wp2_with fail)
          refine hK.out _ _ ?_ (fun hH2 => ?_)
          · (try dsimp only)
            first | go_keep | (refine ⟨?_, ?_⟩ <;> assumption) | (refine ⟨?_, ?_⟩ <;> (rw [World.cell?_setCell_far _ _ _ _ hfar]; assumption))
          clear hK K hH1
          try simp only [Act.put, List.setIfInBounds_toArray, List.set_cons_zero, List.set_cons_succ]
          refine wpAnyH_ready (rs := [4]) (by kernel_rfl) (by simp) ?_
          refine AllReadyH.cons (o := { dst := some 31, op := Op.load 32 (Operand.tmp 30), type := 32, pos := "l05_related.go:79", after := #[{ on := 3, ground := Ground.data }], guard := none }) rfl (fun K hK => ?_) AllReadyH.nil
          · skip
            go_simp
            try (go_wp2_with fail)
            refine hK.out _ _ ?_ (fun hH3 => ?_)
            · (try dsimp only)
              first | go_keep | (refine ⟨?_, ?_⟩ <;> assumption) | (refine ⟨?_, ?_⟩ <;> (rw [World.cell?_setCell_far _ _ _ _ hfar]; assumption))
            clear hK K hH2
            try simp only [Act.put, List.setIfInBounds_toArray, List.set_cons_zero, List.set_cons_succ]
            refine wpAnyH_ready (rs := [8]) (by kernel_rfl) (by simp) ?_
            refine AllReadyH.cons (o := { dst := some 35, op := Op.call { callee := Callee.builtin Builtin.append, args := #[Operand.tmp 31, Operand.tmp 34], argTypes := #[32, 32] }, type := 32, pos := "l05_related.go:79", after := #[{ on := 4, ground := Ground.data }, { on := 7, ground := Ground.data }, { on := 6, ground := Ground.chain }], guard := none }) rfl (fun K hK => ?_) AllReadyH.nil
            · skip
              (refine step_append_lies _ (by rfl) _ _ _ (by rfl) B0 121 i0 (.agg #[.string ⟨#[]⟩, .slice none 0 0]) 2 40 Tryz.underlying32 hi hy0 hy1 hy2 rfl (by omega) (.slice sp T.length sc) T.length (setCs T) (by rfl) (O3.out.alloc _) ⟨w3.heap.size, 0, none⟩ 1 1 [.string x.1, .slice cp x.2.length cc] (by rfl) (by rfl) (World.news_of_block (cs := #[.string x.1, .slice cp x.2.length cc]) (t := 121) (fr := (0, 0)) (heap_alloc_new w3 _)) (by simp [Value.oneCell']) (by omega) HT4.out.2 HT4.out.1 (by simp; omega) (w3.heap.size + 1) (by simp) ?_; intro gg cap w4 hown4 hgrow hat hlt4; have e0 : w4.cell? ⟨b, 1, none⟩ = some (.slice sp T.length sc) := hgrow.cell (da _) (Ne.symm nb); have ex0 : w4.cell? ⟨w.heap.size, 0, none⟩ = some (.string x.1) := hgrow.cell (dx0 _) (Ne.symm nx); have ex1 : w4.cell? ⟨w.heap.size, 1, none⟩ = some (.slice up x.2.length uc) := hgrow.cell (dx1 _) (Ne.symm nx); have ef : w4.frozen? ⟨b, 1, none⟩ = false := by (rw [World.frozen?_of_block (a := ⟨b, 1, none⟩) (hgrow.block b (by simp; omega) (Ne.symm nb))]; exact ((bcell ((Below.refl w3.heap.size w3).alloc (Nat.le_refl _) _)).2 _ _ (Nat.lt_of_lt_of_le hb2 hz3)).trans (((bcell A3).2 _ _ hb2).trans cf)))
              refine hK.out _ _ ?_ (fun hH4 => ?_)
              · (try dsimp only)
                first | go_keep | (refine ⟨?_, ?_⟩ <;> assumption) | (refine ⟨?_, ?_⟩ <;> (rw [World.cell?_setCell_far _ _ _ _ hfar]; assumption))
              clear hK K hH3
              try simp only [Act.put, List.setIfInBounds_toArray, List.set_cons_zero, List.set_cons_succ]
              refine wpAnyH_take (i := 9) (oi := { dst := some 36, op := Op.nilCheck (Operand.tmp 27), type := 0, pos := "l05_related.go:79", after := #[{ on := 0, ground := Ground.data }, { on := 0, ground := Ground.phase }, { on := 1, ground := Ground.phase }, { on := 2, ground := Ground.phase }, { on := 3, ground := Ground.phase }, { on := 4, ground := Ground.phase }, { on := 5, ground := Ground.phase }, { on := 6, ground := Ground.phase }, { on := 7, ground := Ground.phase }, { on := 8, ground := Ground.phase }], guard := none }) (v := ?va10) rfl (by kernel_rfl) (by kernel_rfl) (by kernel_rfl) (fun _ _ _ h => h) (Or.inl ⟨by rfl, ?hya10⟩) (by assumption) ?resta10
              case hya10 =>
                intro w hSw
                (try dsimp only at hSw)
                go_simp
                try with_reducible rfl
              try simp only [Act.put, List.setIfInBounds_toArray, List.set_cons_zero, List.set_cons_succ]
              refine wpAnyH_take (i := 10) (oi := { dst := some 37, op := Op.fieldAddr 139 (Operand.tmp 36) 1, type := 0, pos := "l05_related.go:79", after := #[{ on := 9, ground := Ground.data }, { on := 0, ground := Ground.phase }, { on := 1, ground := Ground.phase }, { on := 2, ground := Ground.phase }, { on := 3, ground := Ground.phase }, { on := 4, ground := Ground.phase }, { on := 5, ground := Ground.phase }, { on := 6, ground := Ground.phase }, { on := 7, ground := Ground.phase }, { on := 8, ground := Ground.phase }], guard := none }) (v := ?va11) rfl (by kernel_rfl) (by kernel_rfl) (by kernel_rfl) (fun _ _ _ h => h) (Or.inl ⟨by rfl, ?hya11⟩) (by assumption) ?resta11
              case hya11 =>
                intro w hSw
                (try dsimp only at hSw)
                go_simp
                try with_reducible rfl
              try simp only [Act.put, List.setIfInBounds_toArray, List.set_cons_zero, List.set_cons_succ]
              refine wpAnyH_ready (rs := [11]) (by kernel_rfl) (by simp) ?_
              refine AllReadyH.cons (o := { dst := none, op := Op.store 32 (Operand.tmp 37) (Operand.tmp 35), type := 0, pos := "l05_related.go:79", after := #[{ on := 10, ground := Ground.data }, { on := 8, ground := Ground.data }, { on := 8, ground := Ground.chain }, { on := 0, ground := Ground.phase }, { on := 1, ground := Ground.phase }, { on := 2, ground := Ground.phase }, { on := 3, ground := Ground.phase }, { on := 4, ground := Ground.phase }, { on := 5, ground := Ground.phase }, { on := 6, ground := Ground.phase }, { on := 7, ground := Ground.phase }, { on := 8, ground := Ground.phase }], guard := none }) rfl (fun K hK => ?_) AllReadyH.nil
              · skip
                go_simp
                try (go_wp2_with fail)
                refine hK.out _ _ ?_ (fun hH5 => ?_)
                · (try dsimp only)
                  first | go_keep | (refine ⟨?_, ?_⟩ <;> assumption) | (refine ⟨?_, ?_⟩ <;> (rw [World.cell?_setCell_far _ _ _ _ hfar]; assumption))
                clear hK K hH4
                try simp only [Act.put, List.setIfInBounds_toArray, List.set_cons_zero, List.set_cons_succ]
                refine wpAnyH_done (by kernel_rfl) ?_ _
                go_wp2
                go_ret
                have BkF := BookR.push Bk2.out A3 S3.out hx0 hown4 hgrow hat
                have MF : MapIs (w4.setCell ⟨b, 1, none⟩ (.slice (some ⟨gg, 0, none⟩) (T.length + 1) cap)) bm (N + 5) (plTo pl T.length (allD x) (allD x).length) := ((((M2.out.below A3).below ((Below.refl _ _).alloc (Nat.le_refl _) _)).kept hgrow (fun e => (own_ne_map Bk2.out.own M2.out e.symm) rfl)).far (fun e => M2.out.ne c1 e.symm))
                have BF : Below B0 w (w4.setCell ⟨b, 1, none⟩ (.slice (some ⟨gg, 0, none⟩) (T.length + 1) cap)) := Below.setCell (((B2.out.trans (A3.mono (Nat.le_trans hB0w (Nat.le_of_lt z2)))).alloc (Nat.le_trans hB0w (Nat.le_trans (Nat.le_of_lt z2) hz3)) _).grown hgrow (Nat.le_trans hB0w (Nat.le_trans (Nat.le_of_lt z2) (by simp; omega))) (fun j hj => (own_in5 Bk2.out.own hj).1)) Bk2.out.hb _
                exact ⟨.inl ⟨HQ.out, rfl, ⟨_, _, BkF⟩, MF⟩, BF⟩
end Go.Proofs.YtaccgciopmclhaaGreatDoor

/- A book of sets is to be had just of right sets: plain facts. -/
namespace Go.Proofs.YtaccgciopmclhaaGreatDoor
open Go.Maps

/-- where the domains of the first k sets stand -/
def plOf (L : List SetL) : Nat → ByteArray → Option Nat
  | 0 => fun _ => none
  | k + 1 => plTo (plOf L k) k (allD (atS L k)) (allD (atS L k)).length
theorem hasB_iff (x : SetL) (d : ByteArray) : hasB x d = true ↔ ∃ j, j < (allD x).length ∧ (d.toList == (atL (allD x) j).toList) = true := by
  constructor
  · intro h
    unfold hasB at h
    rw [List.any_eq_true] at h
    obtain ⟨y, hy, e⟩ := h
    obtain ⟨k, hk, rfl⟩ := List.mem_iff_getElem.1 hy
    refine ⟨k, hk, ?_⟩
    have e1 : atL (allD x) k = (allD x)[k] := by simp [atL, hk]
    rw [e1, beq_iff_eq]
    rw [beq_iff_eq] at e
    exact e.symm
  · rintro ⟨j, hj, e⟩
    refine hasB_at j hj ?_
    rw [beq_iff_eq] at e ⊢
    exact e.symm
theorem plTo_some {pl : ByteArray → Option Nat} {v : Nat} {D : List ByteArray} {k : Nat} {x : ByteArray} : (plTo pl v D k x).isSome = true ↔ (∃ j, j < k ∧ (x.toList == (atL D j).toList) = true) ∨ (pl x).isSome = true := by
  by_cases he : ∃ j, j < k ∧ (x.toList == (atL D j).toList) = true
  · obtain ⟨j, hj, e⟩ := he
    rw [plTo_in pl v D x k j hj e]
    exact ⟨fun _ => .inl ⟨j, hj, e⟩, fun _ => rfl⟩
  · rw [plTo_eq pl v D x k (fun j hj => by
      cases e : (x.toList == (atL D j).toList) with
      | false => rfl
      | true => exact absurd ⟨j, hj, e⟩ he)]
    exact ⟨.inr, fun h => h.resolve_left he⟩
theorem plOf_some (L : List SetL) (x : ByteArray) : ∀ k, (plOf L k x).isSome = true ↔ ∃ i, i < k ∧ hasB (atS L i) x = true
  | 0 => ⟨fun h => (by cases h), fun ⟨_, h, _⟩ => absurd h (by omega)⟩
  | k + 1 => by
    show (plTo (plOf L k) k (allD (atS L k)) (allD (atS L k)).length x).isSome = true ↔ _
    rw [plTo_some, plOf_some L x k]
    constructor
    · rintro (h | ⟨i, hi, h⟩)
      · exact ⟨k, by omega, (hasB_iff _ _).2 h⟩
      · exact ⟨i, by omega, h⟩
    · rintro ⟨i, hi, h⟩
      by_cases e : i = k
      · subst e; exact .inl ((hasB_iff _ _).1 h)
      · exact .inr ⟨i, by omega, h⟩
theorem isSome_false {o : Option Nat} (h : ¬ o.isSome = true) : o = none := by
  cases o with
  | none => rfl
  | some v => exact absurd rfl h
theorem newB_iff (L : List SetL) (k : Nat) (D : List ByteArray) : newB (plOf L k) k D = true ↔ (∀ j, j < D.length → ∀ i, i < k → hasB (atS L i) (atL D j) = false) ∧ ∀ j, j < D.length → ∀ i, i < j → ((atL D j).toList == (atL D i).toList) = false := by
  unfold newB
  rw [decide_eq_true_eq]
  constructor
  · intro h
    have h' : ∀ j, j < D.length → ¬ (plTo (plOf L k) k D j (atL D j)).isSome = true := fun j hj => by rw [h j hj]; simp
    refine ⟨fun j hj i hi => ?_, fun j hj i hi => ?_⟩
    · cases e : hasB (atS L i) (atL D j) with
      | false => rfl
      | true => exact absurd (plTo_some.2 (.inr ((plOf_some L _ k).2 ⟨i, hi, e⟩))) (h' j hj)
    · cases e : ((atL D j).toList == (atL D i).toList) with
      | false => rfl
      | true => exact absurd (plTo_some.2 (.inl ⟨i, hi, e⟩)) (h' j hj)
  · rintro ⟨h1, h2⟩ j hj
    apply isSome_false
    intro h
    rcases plTo_some.1 h with ⟨i, hi, e⟩ | h
    · rw [h2 j hj i hi] at e; cases e
    · obtain ⟨i, hi, e⟩ := (plOf_some L _ k).1 h
      rw [h1 j hj i hi] at e; cases e
theorem apartB_iff (L : List SetL) (x : SetL) (k : Nat) (hk : k ≤ L.length) : apartB (L.take k) x = true ↔ ∀ j, j < (allD x).length → ∀ i, i < k → hasB (atS L i) (atL (allD x) j) = false := by
  have hl : (L.take k).length = k := by rw [List.length_take]; omega
  have ht : ∀ i, i < k → atS (L.take k) i = atS L i := fun i hi => by
    unfold atS
    rw [List.getD_eq_getElem?_getD, List.getD_eq_getElem?_getD, List.getElem?_take_of_lt hi]
  constructor
  · intro h j hj i hi
    cases e : hasB (atS L i) (atL (allD x) j) with
    | false => rfl
    | true =>
      rw [apartB_at i j (by omega) hj (by rw [ht i hi]; exact e)] at h; cases h
  · intro h
    refine apartB_all (fun i hi j hj => ?_)
    rw [hl] at hi
    rw [ht i hi]; exact h j hj i hi
theorem rising_ne {M : List ByteArray} (h : ∀ i, i < M.length → i = 0 ∨ Op.bytesLess (atL M (i - 1)).toList (atL M i).toList = true) : ∀ j i, i < j → j < M.length → Op.bytesLess (atL M i).toList (atL M j).toList = true
  | 0, _, h1, _ => absurd h1 (by omega)
  | j + 1, i, h1, h2 => by
    have hs := (h (j + 1) h2).resolve_left (by omega)
    rw [Nat.add_sub_cancel] at hs
    by_cases e : i = j
    · subst e; exact hs
    · have ih := rising_ne h j i (by omega) (by omega)
      rw [less_iff] at hs ih ⊢
      exact List.lt_trans ih hs
theorem less_ne {a b : ByteArray} (h : Op.bytesLess a.toList b.toList = true) : (b.toList == a.toList) = false := by
  rw [beq_eq_false_iff_ne]
  intro e
  rw [less_iff, e] at h
  exact List.lt_irrefl _ h
theorem atD_succ (p : ByteArray) (M : List ByteArray) (j : Nat) : atL (allD (p, M)) (j + 1) = atL M j := by simp [atL, allD]
/-- a set may come in just if it is right by itself, and apart from those ahead -/
theorem add_right (n : Nat) (f : Nat → ByteArray) (L : List SetL) (k : Nat) (hk : k ≤ L.length) (x : SetL) (hr : rulesB n f = true) : (domsB n f x && newB (plOf L k) k (allD x)) = (setRB n f x && apartB (L.take k) x) := by
  obtain ⟨p, M⟩ := x
  have hd : ∀ s, domR n f s = domB n f s := fun s => by unfold domR; rw [hr]; rfl
  rw [Bool.eq_iff_iff, Bool.and_eq_true, Bool.and_eq_true, newB_iff, apartB_iff L _ k hk]
  constructor
  · rintro ⟨h1, h2, h3⟩
    obtain ⟨d0, d1, d2, d3⟩ := domsB_parts h1
    refine ⟨?_, h2⟩
    unfold setRB
    rw [hd] at d0
    rw [d0, decide_eq_true d1, decide_eq_true d2, decide_eq_true]
    · rfl
    · intro i hi
      have h := d3 i hi
      unfold okN at h
      rw [hd, Bool.and_eq_true] at h
      have hne := h3 (i + 1) (by show i + 1 < M.length + 1; exact Nat.succ_lt_succ hi) 0 (by omega)
      rw [atD_succ] at hne
      unfold okM
      rw [h.1, h.2]
      have e0 : atL (allD (p, M)) 0 = p := rfl
      rw [e0] at hne
      show (true && !((atL M i).toList == p.toList) && true) = true
      rw [hne]; rfl
  · rintro ⟨h1, h2⟩
    unfold setRB at h1
    rw [Bool.and_eq_true, Bool.and_eq_true, Bool.and_eq_true, decide_eq_true_eq, decide_eq_true_eq, decide_eq_true_eq] at h1
    obtain ⟨⟨⟨d0, d1⟩, d2⟩, d3⟩ := h1
    have hm : ∀ i, i < M.length → domB n f (atL M i) = true ∧ ((atL M i).toList == p.toList) = false ∧ (i == 0 || Op.bytesLess (atL M (i - 1)).toList (atL M i).toList) = true := fun i hi => by
      have h := d3 i hi
      unfold okM at h
      rw [Bool.and_eq_true, Bool.and_eq_true] at h
      exact ⟨h.1.1, by have := h.1.2; simpa using this, h.2⟩
    refine ⟨domsB_all (by rw [hd]; exact d0) d1 d2 (fun i hi => ?_), h2, fun j hj i hi => ?_⟩
    · unfold okN
      rw [hd, (hm i hi).1, (hm i hi).2.2]; rfl
    · cases j with
      | zero => omega
      | succ j =>
        have hj' : j < M.length := by have : (allD (p, M)).length = M.length + 1 := rfl; omega
        rw [atD_succ]
        cases i with
        | zero => exact (hm j hj').2.1
        | succ i =>
          rw [atD_succ]
          refine less_ne (rising_ne (fun i hi => ?_) j i (by omega) hj')
          have := (hm i hi).2.2
          rw [Bool.or_eq_true, beq_iff_eq] at this
          exact this
/-- the set at a place comes into the book -/
def okBk (n : Nat) (f : Nat → ByteArray) (L : List SetL) (k : Nat) : Bool := (k == 0 || Op.bytesLess (atS L (k - 1)).1.toList (atS L k).1.toList) && addB n f (plOf L k) k (atS L k)
def bookB (n : Nat) (f : Nat → ByteArray) (L : List SetL) : Bool := rulesB n f && decide (∀ k, k < L.length → okBk n f L k = true)
theorem bookB_sets (n : Nat) (f : Nat → ByteArray) (L : List SetL) : bookB n f L = setsB n f L := by
  unfold bookB setsB
  cases hr : rulesB n f with
  | false => rfl
  | true =>
    rw [Bool.true_and, Bool.true_and, Bool.eq_iff_iff, Bool.and_eq_true, decide_eq_true_eq, decide_eq_true_eq, decide_eq_true_eq]
    have key : ∀ k, k < L.length → (okBk n f L k = true ↔ k ≠ 6 ∧ okS n f L k = true) := fun k hk => by
      have h := add_right n f L k (by omega) (atS L k) hr
      unfold okBk okS addB
      rw [Bool.and_assoc, h]
      by_cases h6 : k = 6
      · rw [decide_eq_true h6]; simp [h6]
      · rw [decide_eq_false h6]
        simp only [Bool.not_false, Bool.true_and, Bool.and_eq_true, ne_eq, h6, not_false_eq_true, true_and]
        constructor
        · rintro ⟨a, b, c⟩; exact ⟨⟨b, a⟩, c⟩
        · rintro ⟨⟨b, a⟩, c⟩; exact ⟨a, b, c⟩
    constructor
    · intro h
      refine ⟨?_, fun i hi => ((key i hi).1 (h i hi)).2⟩
      by_cases h6 : 6 < L.length
      · exact absurd rfl ((key 6 h6).1 (h 6 h6)).1
      · omega
    · rintro ⟨h6, h⟩ k hk
      exact (key k hk).2 ⟨by omega, h k hk⟩
end Go.Proofs.YtaccgciopmclhaaGreatDoor

/- The walk of the program's bookOf. -/
namespace Go.Proofs.YtaccgciopmclhaaGreatDoor
open Go.RowKit Go.Maps

/-- what is there already, stored once more -/
theorem setCell_same5 {w : World} {b o : Nat} {v : Value} (h : w.cell? ⟨b, o, none⟩ = some v) : w.setCell ⟨b, o, none⟩ v = w := by
  have hb : b < w.heap.size := by
    by_cases hb : b < w.heap.size
    · exact hb
    · exfalso
      simp [World.cell?, Array.getElem?_eq_none (show w.heap.size ≤ b by omega)] at h
  have hs : (w.setCell ⟨b, o, none⟩ v).heap = w.heap := by
    refine Array.ext (by simp [World.setCell]) (fun i h1 h2 => ?_)
    by_cases e : i = b
    · subst e
      unfold World.cell? at h
      rw [Array.getElem?_eq_getElem hb] at h
      simp only [World.setCell, Array.getElem_modify, if_true]
      cases hc : w.heap[i] with
      | cells c t fz =>
        rw [hc] at h
        simp only [Option.isSome_none, Bool.false_eq_true, if_false] at h ⊢
        congr 1
        refine Array.ext (by simp) (fun k k1 k2 => ?_)
        rw [Array.getElem_setIfInBounds]
        split
        · rename_i e2
          subst e2
          have h3 : c[o]? = some v := by simpa using h
          rw [Array.getElem?_eq_getElem (by simpa using k1)] at h3
          exact (Option.some.inj h3).symm
        · rfl
      | _ => rfl
    · simp only [World.setCell, Array.getElem_modify, if_neg (Ne.symm e)]
  cases w
  simp only [World.setCell] at hs ⊢
  rw [hs]
/-- the five errors stand -/
def ErrsI (w : World) : Prop := ErrAt w 0 ∧ ErrAt w 1 ∧ ErrAt w 2 ∧ ErrAt w 3 ∧ ErrAt w 4
theorem ErrAt.on {w w' : World} {g B : Nat} (h : ErrAt w g) (hb : Below B w w') (hB : w.heap.size ≤ B ∨ g < B) : ErrAt w' g := by
  obtain ⟨ty, v, h⟩ := h
  have hg := World.block_lt_of_cell? w _ h
  exact ⟨ty, v, by rw [hb.cell (p := ⟨g, 0, none⟩) (hB.elim (fun h => Nat.lt_of_lt_of_le hg h) id)]; exact h⟩
theorem ErrsI.below {w w' : World} (h : ErrsI w) (hb : Below w.heap.size w w') : ErrsI w' := ⟨h.1.on hb (.inl (Nat.le_refl _)), h.2.1.on hb (.inl (Nat.le_refl _)), h.2.2.1.on hb (.inl (Nat.le_refl _)), h.2.2.2.1.on hb (.inl (Nat.le_refl _)), h.2.2.2.2.on hb (.inl (Nat.le_refl _))⟩
theorem bookB_no {n : Nat} {f : Nat → ByteArray} {L : List SetL} (h : rulesB n f = false) : bookB n f L = false := by unfold bookB; rw [h]; rfl
theorem bookB_at {n : Nat} {f : Nat → ByteArray} {L : List SetL} (k : Nat) (hk : k < L.length) (h : okBk n f L k = false) : bookB n f L = false := by
  unfold bookB
  rw [decide_eq_false (p := ∀ k, k < L.length → okBk n f L k = true) (fun h' => by rw [h' k hk] at h; cases h), Bool.and_false]
theorem bookB_all {n : Nat} {f : Nat → ByteArray} {L : List SetL} (hr : rulesB n f = true) (h : ∀ k, k < L.length → okBk n f L k = true) : bookB n f L = true := by
  unfold bookB; rw [hr, decide_eq_true h]; rfl
theorem okB_add {n : Nat} {f : Nat → ByteArray} {L : List SetL} {k : Nat} (h : addB n f (plOf L k) k (atS L k) = false) : okBk n f L k = false := by unfold okBk; rw [h, Bool.and_false]
theorem okB_order {n : Nat} {f : Nat → ByteArray} {L : List SetL} {m : Nat} (h : Op.bytesLess (atS L m).1.toList (atS L (m + 1)).1.toList = false) : okBk n f L (m + 1) = false := by
  unfold okBk; rw [Nat.add_sub_cancel, h]; rfl
theorem okB_yes {n : Nat} {f : Nat → ByteArray} {L : List SetL} {k : Nat} (h : addB n f (plOf L k) k (atS L k) = true) (h2 : k = 0 ∨ Op.bytesLess (atS L (k - 1)).1.toList (atS L k).1.toList = true) : okBk n f L k = true := by
  unfold okBk
  rw [h, Bool.and_true, Bool.or_eq_true, beq_iff_eq]
  exact h2
theorem okB_succ {n : Nat} {f : Nat → ByteArray} {L : List SetL} {k : Nat} (h : ∀ i, i < k → okBk n f L i = true) (hk : okBk n f L k = true) : ∀ i, i < k + 1 → okBk n f L i = true := by
  intro i hi
  by_cases e : i = k
  · subst e; exact hk
  · exact h i (by omega)
theorem okB_six {n : Nat} {f : Nat → ByteArray} {L : List SetL} {k : Nat} (h : ∀ i, i < k → okBk n f L i = true) : k ≤ 6 := by
  by_cases h6 : 6 < k
  · have := h 6 h6
    unfold okBk addB at this
    rw [decide_eq_true rfl] at this
    simp at this
  · omega
theorem BookR.setLow {w : World} {B0 b bm r o : Nat} {rv sv x : Value} {T : List (SetL × Value)} (h : BookR w B0 b bm rv T sv) (hr : r < B0) : BookR (w.setCell ⟨r, o, none⟩ x) B0 b bm rv T sv where
  hb := h.hb
  hbm := h.hbm
  c0 := by rw [World.cell?_setCell_other _ _ _ _ (by intro e; injection e with e; have := h.hb; omega)]; exact h.c0
  c1 := by rw [World.cell?_setCell_other _ _ _ _ (by intro e; injection e with e; have := h.hb; omega)]; exact h.c1
  c2 := by rw [World.cell?_setCell_other _ _ _ _ (by intro e; injection e with e; have := h.hb; omega)]; exact h.c2
  fz := fun o => by rw [World.frozen?_setCell]; exact h.fz o
  own := own_far h.own (fun e => by have := (own_in5 h.own e).1; omega)
  nb := h.nb
  mem := fun t ht => ⟨(h.mem t ht).1.setFar (fun hn => by
    obtain ⟨g, e, hg, -⟩ := (h.mem t ht).1.place hn
    rw [e]
    intro e2
    have := Option.some.inj e2
    omega), (h.mem t ht).2⟩
/-- what the book is in the end -/
def BookIs (w : World) (B0 : Nat) (v : Value) (rv : Value) (L : List SetL) : Prop := ∃ B1 b bm T sv, B0 ≤ B1 ∧ v = .agg #[rv, sv, .map (some bm)] ∧ T.map Prod.fst = L ∧ BookR w B1 b bm rv T sv ∧ MapIs w bm 30 (plOf L L.length)
theorem take_snoc5 {L : List SetL} {k : Nat} (hk : k < L.length) : L.take (k + 1) = L.take k ++ [atS L k] := by
  rw [List.take_succ_eq_append_getElem hk]
  simp [atS, hk]
set_option maxRecDepth 10000 in
set_option maxHeartbeats 8000000 in
theorem bookOf_any (rv lv : Value) (n B B' : Nat) (f : Nat → ByteArray) (L : List SetL) (w : World) (hG : MaxI w) (hE : ErrsI w) (hr : SliceS w B rv n f) (l1 : n ≤ 1048576) (hf : ∀ i, i < n → (f i).size ≤ 1048576) (hs : SliceT w B' lv L) (hn : L.length ≤ 1048576) (hz : ∀ j, j < L.length → szS (atS L j)) :
    Calls Tryz.prog 90 #[rv, lv] w fun e w' => ((setsB n f L = true ∧ ∃ v, e = .returned (.tuple #[v, .nilIface]) ∧ BookIs w' w.heap.size v rv L) ∨ (setsB n f L = false ∧ ∃ ty v, e = .returned (.tuple #[.agg #[.slice none 0 0, .slice none 0 0, .map none], .iface ty v]))) ∧ Below w.heap.size w w' := by
  rw [← bookB_sets]
  have HNo : Hid (rulesB n f = false → bookB n f L = false) := fun h => bookB_no h
  have HAt : Hid (∀ k, k < L.length → okBk n f L k = false → bookB n f L = false) := fun k a b => bookB_at k a b
  have HAll : Hid (rulesB n f = true → (∀ k, k < L.length → okBk n f L k = true) → bookB n f L = true) := fun a b => bookB_all a b
  obtain ⟨uu, ⟨q, cap, rfl, hg⟩, hu, -⟩ := hs
  have HSl : Hid (SliceS w B rv n f) := hr
  have HG0 : Hid (MaxI w) := hG
  have HE0 : Hid (ErrsI w) := hE
  have HZ : Hid (∀ j, j < L.length → szS (atS L j)) := hz
  have HU : Hid (∀ j, j < L.length → SliceS w B' (uu j) (atS L j).2.length (atL (atS L j).2)) := hu
  have HF : Hid (∀ i, i < n → (f i).size ≤ 1048576) := hf
  have HGc : Hid (0 < L.length → ∃ g, q = some ⟨g, 0, none⟩ ∧ g < w.heap.size ∧ ∀ j, j < L.length → w.cell? ⟨g, j * 2, none⟩ = some (.string (atS L j).1) ∧ w.cell? ⟨g, j * 2 + 1, none⟩ = some (uu j)) := fun h0 => by
    obtain ⟨g, e, -, hgw, hc⟩ := hg h0
    exact ⟨g, e, hgw, fun j hj => ⟨(hc j hj 0 (by omega)).1, (hc j hj 1 (by omega)).1⟩⟩
  obtain ⟨rp, rc, rfl, -⟩ := hr
  clear hg hu hG hE hz hf
  generalize bookB n f L = R at *
  obtain ⟨W0, hW⟩ : ∃ W0, W0 = w.alloc (.cells #[.slice none 0 0, .slice none 0 0, .map none] 139) := ⟨_, rfl⟩
  have hW0 : Hid (W0 = w.alloc (.cells #[.slice none 0 0, .slice none 0 0, .map none] 139)) := hW
  have HB0 : Hid (Below w.heap.size w W0) := by show Below _ _ _; rw [hW]; exact (Below.refl _ _).alloc (Nat.le_refl _) _
  have z0 : w.heap.size < W0.heap.size := by rw [hW]; simp
  have a0 : W0.cell? ⟨w.heap.size, 0, none⟩ = some (.slice none 0 0) := by rw [hW]; simp
  have a1 : W0.cell? ⟨w.heap.size, 1, none⟩ = some (.slice none 0 0) := by rw [hW]; simp
  have a2 : W0.cell? ⟨w.heap.size, 2, none⟩ = some (.map none) := by rw [hW]; simp
  have af : Hid (∀ o, W0.frozen? ⟨w.heap.size, o, none⟩ = false) := by intro o; rw [hW]; simp
  clear hW
  have KR : Hid (Calls Tryz.prog 134 #[.slice rp n rc] W0 fun e w' => e = .returned (.bool (rulesB n f)) ∧ Below W0.heap.size W0 w') := rulesRight_any _ n B f W0 (HG0.out.on HB0.out) (HSl.out.below HB0.out) l1 HF.out
  generalize hrb : rulesB n f = rb at *
  go_enter Tryz.func90, Tryz.ntmps90
  go_upto_region 1 with fail
  rw [← hW0.out]
  clear hW0
  go_wp2_with fail
  refine KR.out.mono ?_
  rintro e w1 ⟨rfl, hb1⟩
  have B1 : Hid (Below w.heap.size w w1) := HB0.out.trans (hb1.mono HB0.out.size)
  have z1 : w.heap.size < w1.heap.size := Nat.lt_of_lt_of_le z0 hb1.size
  have b0 : w1.cell? ⟨w.heap.size, 0, none⟩ = some (.slice none 0 0) := ((bcell hb1).1 _ _ z0).trans a0
  have b1 : w1.cell? ⟨w.heap.size, 1, none⟩ = some (.slice none 0 0) := ((bcell hb1).1 _ _ z0).trans a1
  have b2 : w1.cell? ⟨w.heap.size, 2, none⟩ = some (.map none) := ((bcell hb1).1 _ _ z0).trans a2
  have bf : Hid (∀ o, w1.frozen? ⟨w.heap.size, o, none⟩ = false) := fun o => ((bcell hb1).2 _ _ z0).trans (af.out o)
  have E1 : Hid (ErrsI w1) := HE0.out.below B1.out
  clear hb1 a0 a1 a2 af KR HB0 HE0
  cases rb with
  | false =>
    have HQ : Hid (R = false) := HNo.out rfl
    obtain ⟨ety, ev, hev⟩ := E1.out.1
    have f0 := bf.out 0
    have f1 := bf.out 1
    have f2 := bf.out 2
    have s0 : w1.setCell ⟨w.heap.size, 0, none⟩ (.slice none 0 0) = w1 := setCell_same5 b0
    have s1 : w1.setCell ⟨w.heap.size, 1, none⟩ (.slice none 0 0) = w1 := setCell_same5 b1
    have s2 : w1.setCell ⟨w.heap.size, 2, none⟩ (.map none) = w1 := setCell_same5 b2
    have t0 : w1.drew.setCell ⟨w.heap.size, 0, none⟩ (.slice none 0 0) = w1.drew := setCell_same5 b0
    have t1 : w1.drew.setCell ⟨w.heap.size, 1, none⟩ (.slice none 0 0) = w1.drew := setCell_same5 b1
    have t2 : w1.drew.setCell ⟨w.heap.size, 2, none⟩ (.map none) = w1.drew := setCell_same5 b2
    clear HNo HAt HAll
    go_wp2_with fail
    go_region
    go_wp2
    exact bodyPost_ret (v := .tuple #[.agg #[.slice none 0 0, .slice none 0 0, .map none], .iface ety ev]) (by simp [results, Tryz.results90, go_sem, b0, b1, b2]) rfl ⟨.inr ⟨HQ.out, _, _, rfl⟩, B1.out.drew⟩
  | true =>
    have HAll1 : Hid ((∀ k, k < L.length → okBk n f L k = true) → R = true) := HAll.out rfl
    clear HNo HAll
    have hmm := @run_makeMap Tryz.prog
    obtain ⟨W2, hW⟩ : ∃ W2, W2 = ((w1.alloc (.map #[] 0)).alloc (.cells #[.slice rp n rc, .slice none 0 0, .map (some w1.heap.size)] 139)) := ⟨_, rfl⟩
    have hW2 : Hid (W2 = ((w1.alloc (.map #[] 0)).alloc (.cells #[.slice rp n rc, .slice none 0 0, .map (some w1.heap.size)] 139))) := hW
    have HB2 : Hid (Below w1.heap.size w1 W2) := by show Below _ _ _; rw [hW]; exact ((Below.refl _ _).alloc (Nat.le_refl _) _).alloc (by simp) _
    have M2 : Hid (MapIs W2 w1.heap.size 0 (plOf L 0)) := by
      show MapIs _ _ _ _
      rw [hW]
      exact (mapIs_made w1).below ((Below.refl _ _).alloc (Nat.le_refl _) _)
    have K2 : Hid (BookR W2 w1.heap.size (w1.heap.size + 1) w1.heap.size (.slice rp n rc) [] (.slice none 0 0)) := by
      show BookR _ _ _ _ _ _ _
      rw [hW]
      exact ⟨by omega, Nat.le_refl _, (World.cell?_alloc_at _ _ _ _ (by simp)).trans rfl, (World.cell?_alloc_at _ _ _ _ (by simp)).trans rfl, (World.cell?_alloc_at _ _ _ _ (by simp)).trans rfl, fun o => World.frozen?_alloc_at _ _ _ _ (by simp), World.ownsRow_nil _ _ _ _, (by intro e; cases e), fun t ht => by cases ht⟩
    clear hW
    go_upto_region 4 with fail
    rw [← hW2.out]
    clear hW2 hmm
    go_wp2
    go_loopw [20] (fun i wr => ∃ (k : Nat) (T : List (SetL × Value)) (sv : Value), k ≤ L.length ∧ i = .int .i64 k ∧ Hid (T.map Prod.fst = L.take k) ∧ Hid (BookR wr w1.heap.size (w1.heap.size + 1) w1.heap.size (.slice rp n rc) T sv) ∧ Hid (MapIs wr w1.heap.size (5 * k) (plOf L k)) ∧ Hid (Below w1.heap.size w1 wr) ∧ Hid (∀ j, j < k → okBk n f L j = true)) (fun i _ => L.length - (intOf i).toNat)
    case atStart => exact ⟨0, [], _, Nat.zero_le _, rfl, rfl, K2, M2, HB2, fun j hj => absurd hj (by omega)⟩
    case round =>
      obtain ⟨k, T, sv, hk, rfl, HT, HK, HM, HB, HR⟩ := hrel
      have r0 : wr.cell? ⟨w.heap.size, 0, none⟩ = some (.slice none 0 0) := ((bcell HB.out).1 _ _ z1).trans b0
      have r1 : wr.cell? ⟨w.heap.size, 1, none⟩ = some (.slice none 0 0) := ((bcell HB.out).1 _ _ z1).trans b1
      have r2 : wr.cell? ⟨w.heap.size, 2, none⟩ = some (.map none) := ((bcell HB.out).1 _ _ z1).trans b2
      have RF : Hid (∀ o, wr.frozen? ⟨w.heap.size, o, none⟩ = false) := fun o => ((bcell HB.out).2 _ _ z1).trans (bf.out o)
      have hz1r : w1.heap.size ≤ wr.heap.size := HB.out.size
      have BW : Hid (Below w.heap.size w wr) := B1.out.trans (HB.out.mono (Nat.le_of_lt z1))
      by_cases hlt : k < L.length
      · obtain ⟨g, rfl, hgw, hc⟩ := HGc.out (by omega)
        have h6 : k ≤ 6 := okB_six HR.out
        have hTl : T.length = k := by
          have := congrArg List.length HT.out
          rw [List.length_map, List.length_take] at this; omega
        have HTl : Hid (T.length = k) := hTl
        have c0 : wr.cell? ⟨g, k * 2, none⟩ = some (.string (atS L k).1) := ((bcell BW.out).1 _ _ hgw).trans (hc k hlt).1
        have c1 : wr.cell? ⟨g, k * 2 + 1, none⟩ = some (uu k) := ((bcell BW.out).1 _ _ hgw).trans (hc k hlt).2
        have k0 : (0 : Int) ≤ k := by omega
        have k1 : (k : Int) < L.length := by omega
        have SU : Hid (SliceS wr B' (uu k) (atS L k).2.length (atL (atS L k).2)) := (HU.out k hlt).below BW.out
        obtain ⟨up, uc, hup, -⟩ := SU.out
        obtain ⟨y1, y2, y3⟩ := HZ.out k hlt
        have KA0 : ∀ W, Below wr.heap.size wr W → Calls Tryz.prog 135 #[.pointer (some ⟨w1.heap.size + 1, 0, none⟩), .agg #[.string (atS L k).1, uu k]] W fun e w' =>
            ((addB n f (plOf L k) k (atS L k) = true ∧ e = .returned .nilIface ∧ (∃ u' sv', BookR w' w1.heap.size (w1.heap.size + 1) w1.heap.size (.slice rp n rc) (T ++ [(atS L k, u')]) sv') ∧ MapIs w' w1.heap.size (5 * k + 5) (plOf L (k + 1))) ∨ (addB n f (plOf L k) k (atS L k) = false ∧ (∃ ty v, e = .returned (.iface ty v)) ∧ BookR w' w1.heap.size (w1.heap.size + 1) w1.heap.size (.slice rp n rc) T sv ∧ MapIs w' w1.heap.size (5 * k + 5) (plOf L k))) ∧ Below w1.heap.size W w' := fun W hb => by
          have BWW : Below w.heap.size w W := BW.out.trans (hb.mono BW.out.size)
          have h := add_any w1.heap.size (w1.heap.size + 1) w1.heap.size (5 * k) n B B' (.slice rp n rc) sv (uu k) f T (plOf L k) (atS L k) W (HG0.out.on BWW) (HSl.out.below BWW) l1 HF.out (SU.out.below hb) y2 y1 y3 (HK.out.below hb) (HM.out.below hb) (by omega) (by omega) (E1.out.2.2.1.on (HB.out.trans (hb.mono HB.out.size)) (.inl (Nat.le_refl _))) (E1.out.2.2.2.1.on (HB.out.trans (hb.mono HB.out.size)) (.inl (Nat.le_refl _))) (E1.out.2.2.2.2.on (HB.out.trans (hb.mono HB.out.size)) (.inl (Nat.le_refl _)))
          rw [HTl.out] at h
          exact h
        have HOrd : Hid (∀ m, k = m + 1 → wr.cell? ⟨g, m * 2, none⟩ = some (.string (atS L m).1)) := fun m e => ((bcell BW.out).1 _ _ hgw).trans (hc m (by omega)).1
        have HNo : Hid (addB n f (plOf L k) k (atS L k) = false → R = false) := fun e => HAt.out k hlt (okB_add e)
        have HNext : Hid (∀ u', (T ++ [(atS L k, u')]).map Prod.fst = L.take (k + 1)) := fun u' => by rw [List.map_append, HT.out, take_snoc5 hlt]; rfl
        have HYes : Hid (addB n f (plOf L k) k (atS L k) = true → (k = 0 ∨ Op.bytesLess (atS L (k - 1)).1.toList (atS L k).1.toList = true) → ∀ j, j < k + 1 → okBk n f L j = true) := fun a b => okB_succ HR.out (okB_yes a b)
        have HOrdN : Hid (∀ m, k = m + 1 → Op.bytesLess (atS L m).1.toList (atS L (m + 1)).1.toList = false → R = false) := fun m e h => by subst e; exact HAt.out (m + 1) hlt (okB_order h)
        have hge : ∀ (t : TypeId) (a b : ByteArray), binOp .geq t (.string a) (.string b) = pure (.bool (!(Op.bytesLess a.toList b.toList))) := geq_text
        rw [hup] at KA0 c1
        clear hc hup y1 y2 y3
        generalize (atS L k).2.length = nu at *
        generalize hpk : (atS L k).1 = pk at *
        obtain ⟨W3, hW⟩ : ∃ W3, W3 = wr.alloc (.cells #[.string pk, .slice up nu uc] 121) := ⟨_, rfl⟩
        have hW3 : Hid (W3 = wr.alloc (.cells #[.string pk, .slice up nu uc] 121)) := hW
        have HB3 : Hid (Below wr.heap.size wr W3) := by show Below _ _ _; rw [hW]; exact (Below.refl _ _).alloc (Nat.le_refl _) _
        have d0 : W3.cell? ⟨wr.heap.size, 0, none⟩ = some (.string pk) := by rw [hW]; simp
        have d1 : W3.cell? ⟨wr.heap.size, 1, none⟩ = some (.slice up nu uc) := by rw [hW]; simp
        have hz3 : wr.heap.size < W3.heap.size := by rw [hW]; simp
        have hwr : w.heap.size < wr.heap.size := Nat.lt_of_lt_of_le z1 hz1r
        have q0 : W3.cell? ⟨w.heap.size, 0, none⟩ = some (.slice none 0 0) := ((bcell HB3.out).1 _ _ hwr).trans r0
        have q1 : W3.cell? ⟨w.heap.size, 1, none⟩ = some (.slice none 0 0) := ((bcell HB3.out).1 _ _ hwr).trans r1
        have q2 : W3.cell? ⟨w.heap.size, 2, none⟩ = some (.map none) := ((bcell HB3.out).1 _ _ hwr).trans r2
        have QF : Hid (∀ o, W3.frozen? ⟨w.heap.size, o, none⟩ = false) := fun o => ((bcell HB3.out).2 _ _ hwr).trans (RF.out o)
        have KA : Hid (∀ W, Below W3.heap.size W3 W → Calls Tryz.prog 135 #[.pointer (some ⟨w1.heap.size + 1, 0, none⟩), .agg #[.string pk, .slice up nu uc]] W fun e w' =>
            ((addB n f (plOf L k) k (atS L k) = true ∧ e = .returned .nilIface ∧ (∃ u' sv', BookR w' w1.heap.size (w1.heap.size + 1) w1.heap.size (.slice rp n rc) (T ++ [(atS L k, u')]) sv') ∧ MapIs w' w1.heap.size (5 * k + 5) (plOf L (k + 1))) ∨ (addB n f (plOf L k) k (atS L k) = false ∧ (∃ ty v, e = .returned (.iface ty v)) ∧ BookR w' w1.heap.size (w1.heap.size + 1) w1.heap.size (.slice rp n rc) T sv ∧ MapIs w' w1.heap.size (5 * k + 5) (plOf L k))) ∧ Below w1.heap.size W w') := fun W hb => KA0 W (HB3.out.trans (hb.mono HB3.out.size))
        have BW3 : Hid (Below w.heap.size w W3) := BW.out.trans (HB3.out.mono BW.out.size)
        have BV3 : Hid (Below w1.heap.size w1 W3) := HB.out.trans (HB3.out.mono hz1r)
        clear hW KA0 HK HM HT HTl hTl r0 r1 r2 RF SU
        go_upto_region 7 with fail
        rw [← hW3.out]
        clear hW3
        cases k with
        | zero =>
          have q5 : decide ((0 : Int) < ((0 : Nat) : Int)) = false := by decide
          clear HOrd HOrdN
          go_region
          go_wp2_with fail
          refine (KA.out _ (by first | exact Below.drew (Below.refl _ _) | exact Below.refl _ _)).mono ?_
          rintro e w4 ⟨hres, hb4⟩
          have B4 : Hid (Below w1.heap.size w1 w4) := BV3.out.trans (by first | exact (Below.drew (Below.refl _ _)).trans hb4 | exact hb4)
          have BW4 : Hid (Below w.heap.size w w4) := B1.out.trans (B4.out.mono (Nat.le_of_lt z1))
          have p0 : w4.cell? ⟨w.heap.size, 0, none⟩ = some (.slice none 0 0) := ((bcell B4.out).1 _ _ z1).trans b0
          have p1 : w4.cell? ⟨w.heap.size, 1, none⟩ = some (.slice none 0 0) := ((bcell B4.out).1 _ _ z1).trans b1
          have p2 : w4.cell? ⟨w.heap.size, 2, none⟩ = some (.map none) := ((bcell B4.out).1 _ _ z1).trans b2
          have PF : Hid (∀ o, w4.frozen? ⟨w.heap.size, o, none⟩ = false) := fun o => ((bcell B4.out).2 _ _ z1).trans (bf.out o)
          clear hb4 q0 q1 q2 d0 d1
          rcases hres with ⟨ha, rfl, ⟨u', sv', hk4⟩, hm4⟩ | ⟨ha, ⟨ety, ev, rfl⟩, -, -⟩
          · have HR2 : Hid (∀ j, j < 0 + 1 → okBk n f L j = true) := HYes.out ha (by first | exact .inl rfl | exact .inl trivial)
            have HK4 : Hid (BookR w4 w1.heap.size (w1.heap.size + 1) w1.heap.size (.slice rp n rc) (T ++ [(atS L 0, u')]) sv') := hk4
            have HM4 : Hid (MapIs w4 w1.heap.size (5 * (0 + 1)) (plOf L (0 + 1))) := hm4
            have HT4 := HNext.out u'
            have HT5 : Hid ((T ++ [(atS L 0, u')]).map Prod.fst = L.take (0 + 1)) := HT4
            clear ha hk4 hm4 HT4
            go_wp2
            go_roundw
            case rel => exact ⟨0 + 1, _, sv', by omega, by go_num, HT5, HK4, HM4, B4, HR2⟩
            case measure => simp [intOf]; omega
          · have HQ : Hid (R = false) := HNo.out ha
            have f0 := PF.out 0
            have f1 := PF.out 1
            have f2 := PF.out 2
            have s0 : w4.setCell ⟨w.heap.size, 0, none⟩ (.slice none 0 0) = w4 := setCell_same5 p0
            have s1 : w4.setCell ⟨w.heap.size, 1, none⟩ (.slice none 0 0) = w4 := setCell_same5 p1
            have s2 : w4.setCell ⟨w.heap.size, 2, none⟩ (.map none) = w4 := setCell_same5 p2
            clear ha
            go_wp2
            exact bodyPost_ret (v := .tuple #[.agg #[.slice none 0 0, .slice none 0 0, .map none], .iface ety ev]) (by simp [results, Tryz.results90, go_sem, p0, p1, p2]) rfl ⟨.inr ⟨HQ.out, _, _, rfl⟩, BW4.out⟩
        | succ m =>
          have cm := HOrd.out m rfl
          have cm3 : W3.cell? ⟨g, m * 2, none⟩ = some (.string (atS L m).1) := ((bcell HB3.out).1 _ _ (Nat.lt_trans hgw hwr)).trans cm
          have HON := HOrdN.out m rfl
          have q5 : decide ((0 : Int) < ((m : Int) + 1)) = true := by rw [decide_eq_true_iff]; omega
          have hw1 : IntKind.i64.wrap ((m : Int) + 1 - 1) = m := by
            rw [IntKind.wrap_i64]; omega
          have hw2 : IntKind.i64.wrap (m : Int) = m := by rw [IntKind.wrap_i64]; omega
          have m0 : (0 : Int) ≤ m := by omega
          have m1 : (m : Int) < L.length := by omega
          have HY2 : Hid (addB n f (plOf L (m + 1)) (m + 1) (atS L (m + 1)) = true → Op.bytesLess (atS L m).1.toList pk.toList = true → ∀ j, j < m + 1 + 1 → okBk n f L j = true) := fun a b => HYes.out a (.inr b)
          rw [hpk] at HON
          clear HOrd HOrdN HYes cm
          generalize (atS L m).1 = pm at *
          cases hl : Op.bytesLess pm.toList pk.toList with
          | false =>
            have HQ : Hid (R = false) := HON hl
            obtain ⟨ety, ev, hev⟩ := E1.out.2.1.on BV3.out (.inl (Nat.le_refl _))
            have f0 := QF.out 0
            have f1 := QF.out 1
            have f2 := QF.out 2
            have s0 : W3.setCell ⟨w.heap.size, 0, none⟩ (.slice none 0 0) = W3 := setCell_same5 q0
            have s1 : W3.setCell ⟨w.heap.size, 1, none⟩ (.slice none 0 0) = W3 := setCell_same5 q1
            have s2 : W3.setCell ⟨w.heap.size, 2, none⟩ (.map none) = W3 := setCell_same5 q2
            clear HON HY2 KA HNo HNext
            go_region
            go_wp2_with fail
            go_region
            go_wp2
            exact bodyPost_ret (v := .tuple #[.agg #[.slice none 0 0, .slice none 0 0, .map none], .iface ety ev]) (by simp [results, Tryz.results90, go_sem, q0, q1, q2]) rfl ⟨.inr ⟨HQ.out, _, _, rfl⟩, BW3.out.drew.drew⟩
          | true =>
            have HYes : Hid (addB n f (plOf L (m + 1)) (m + 1) (atS L (m + 1)) = true → True → ∀ j, j < m + 1 + 1 → okBk n f L j = true) := fun a _ => HY2.out a hl
            clear HON HY2
            go_region
            go_wp2_with fail
            refine (KA.out _ (by first | exact Below.drew (Below.refl _ _) | exact Below.refl _ _)).mono ?_
            rintro e w4 ⟨hres, hb4⟩
            have B4 : Hid (Below w1.heap.size w1 w4) := BV3.out.trans (by first | exact (Below.drew (Below.refl _ _)).trans hb4 | exact hb4)
            have BW4 : Hid (Below w.heap.size w w4) := B1.out.trans (B4.out.mono (Nat.le_of_lt z1))
            have p0 : w4.cell? ⟨w.heap.size, 0, none⟩ = some (.slice none 0 0) := ((bcell B4.out).1 _ _ z1).trans b0
            have p1 : w4.cell? ⟨w.heap.size, 1, none⟩ = some (.slice none 0 0) := ((bcell B4.out).1 _ _ z1).trans b1
            have p2 : w4.cell? ⟨w.heap.size, 2, none⟩ = some (.map none) := ((bcell B4.out).1 _ _ z1).trans b2
            have PF : Hid (∀ o, w4.frozen? ⟨w.heap.size, o, none⟩ = false) := fun o => ((bcell B4.out).2 _ _ z1).trans (bf.out o)
            clear hb4 q0 q1 q2 d0 d1
            rcases hres with ⟨ha, rfl, ⟨u', sv', hk4⟩, hm4⟩ | ⟨ha, ⟨ety, ev, rfl⟩, -, -⟩
            · have HR2 : Hid (∀ j, j < (m + 1) + 1 → okBk n f L j = true) := HYes.out ha trivial
              have HK4 : Hid (BookR w4 w1.heap.size (w1.heap.size + 1) w1.heap.size (.slice rp n rc) (T ++ [(atS L (m + 1), u')]) sv') := hk4
              have HM4 : Hid (MapIs w4 w1.heap.size (5 * ((m + 1) + 1)) (plOf L ((m + 1) + 1))) := hm4
              have HT4 := HNext.out u'
              have HT5 : Hid ((T ++ [(atS L (m + 1), u')]).map Prod.fst = L.take ((m + 1) + 1)) := HT4
              clear ha hk4 hm4 HT4
              go_wp2
              go_roundw
              case rel => exact ⟨(m + 1) + 1, _, sv', by omega, by go_num, HT5, HK4, HM4, B4, HR2⟩
              case measure => simp [intOf]; omega
            · have HQ : Hid (R = false) := HNo.out ha
              have f0 := PF.out 0
              have f1 := PF.out 1
              have f2 := PF.out 2
              have s0 : w4.setCell ⟨w.heap.size, 0, none⟩ (.slice none 0 0) = w4 := setCell_same5 p0
              have s1 : w4.setCell ⟨w.heap.size, 1, none⟩ (.slice none 0 0) = w4 := setCell_same5 p1
              have s2 : w4.setCell ⟨w.heap.size, 2, none⟩ (.map none) = w4 := setCell_same5 p2
              clear ha
              go_wp2
              exact bodyPost_ret (v := .tuple #[.agg #[.slice none 0 0, .slice none 0 0, .map none], .iface ety ev]) (by simp [results, Tryz.results90, go_sem, p0, p1, p2]) rfl ⟨.inr ⟨HQ.out, _, _, rfl⟩, BW4.out⟩
      · obtain rfl : k = L.length := by omega
        have HQ : Hid (R = true) := HAll1.out HR.out
        have hl6 : L.length ≤ 6 := okB_six HR.out
        have x0 := HK.out.c0
        have x1 := HK.out.c1
        have x2 := HK.out.c2
        have f0 := RF.out 0
        have f1 := RF.out 1
        have f2 := RF.out 2
        obtain ⟨sp, sc, rfl⟩ : ∃ p c, sv = .slice p T.length c := by
          obtain ⟨_, ⟨rfl, h0⟩ | ⟨g, cap, cur, rfl, _⟩⟩ := HK.out.own
          · exact ⟨none, 0, by rw [h0]⟩
          · exact ⟨_, _, rfl⟩
        have HFin : Hid (∀ x y z : Value, BookIs (((wr.setCell ⟨w.heap.size, 0, none⟩ x).setCell ⟨w.heap.size, 1, none⟩ y).setCell ⟨w.heap.size, 2, none⟩ z) w.heap.size (.agg #[.slice rp n rc, .slice sp T.length sc, .map (some w1.heap.size)]) (.slice rp n rc) L) := fun x y z => ⟨w1.heap.size, _, _, T, _, Nat.le_of_lt z1, rfl, by rw [HT.out, List.take_length], ((HK.out.setLow z1).setLow z1).setLow z1, ((HM.out.mono (by omega)).far (by omega)).far (by omega) |>.far (by omega)⟩
        have HFB : Hid (∀ x y z : Value, Below w.heap.size w (((wr.setCell ⟨w.heap.size, 0, none⟩ x).setCell ⟨w.heap.size, 1, none⟩ y).setCell ⟨w.heap.size, 2, none⟩ z)) := fun x y z => ((BW.out.setCell (Nat.le_refl _) _).setCell (Nat.le_refl _) _).setCell (Nat.le_refl _) _
        go_wp2
        exact bodyPost_ret (v := .tuple #[.agg #[.slice rp n rc, .slice sp T.length sc, .map (some w1.heap.size)], .nilIface]) (by simp [results, Tryz.results90, go_sem, r0, r1, r2]) rfl ⟨.inl ⟨HQ.out, _, rfl, HFin.out _ _ _⟩, HFB.out _ _ _⟩
end Go.Proofs.YtaccgciopmclhaaGreatDoor

/- The law FnExactSetsRight, walked; the walk of the program's SetsRight. -/
namespace Go.Proofs.YtaccgciopmclhaaGreatDoor
open Go.RowKit Go.Maps

theorem bookR_slice {w : World} {B0 b bm : Nat} {rv sv : Value} {T : List (SetL × Value)} (h : BookR w B0 b bm rv T sv) : ∃ p c, sv = .slice p T.length c := by
  obtain ⟨_, ⟨rfl, h0⟩ | ⟨g, cap, cur, rfl, _⟩⟩ := h.own
  · exact ⟨none, 0, by rw [h0]⟩
  · exact ⟨_, _, rfl⟩
set_option maxRecDepth 10000 in
set_option maxHeartbeats 4000000 in
theorem setsRight_any (rv lv : Value) (n B B' : Nat) (f : Nat → ByteArray) (L : List SetL) (w : World) (hG : MaxI w) (hE : ErrsI w) (hr : SliceS w B rv n f) (l1 : n ≤ 1048576) (hf : ∀ i, i < n → (f i).size ≤ 1048576) (hs : SliceT w B' lv L) (hn : L.length ≤ 1048576) (hz : ∀ j, j < L.length → szS (atS L j)) :
    Calls Tryz.prog 38 #[rv, lv] w fun e w' => e = .returned (.bool (setsB n f L)) ∧ Below w.heap.size w w' := by
  have KB : Hid (Calls Tryz.prog 90 #[rv, lv] w fun e w' => ((setsB n f L = true ∧ ∃ v, e = .returned (.tuple #[v, .nilIface]) ∧ BookIs w' w.heap.size v rv L) ∨ (setsB n f L = false ∧ ∃ ty v, e = .returned (.tuple #[.agg #[.slice none 0 0, .slice none 0 0, .map none], .iface ty v]))) ∧ Below w.heap.size w w') := bookOf_any rv lv n B B' f L w hG hE hr l1 hf hs hn hz
  obtain ⟨rp, rc, rfl, -⟩ := hr
  clear hG hE hf hs hz
  generalize setsB n f L = R at *
  go_enter Tryz.func38, Tryz.ntmps38
  go_wp2_with fail
  refine KB.out.mono ?_
  rintro e w1 ⟨⟨rfl, v, rfl, hb⟩ | ⟨rfl, ty, v, rfl⟩, hb1⟩
  · obtain ⟨B1, b, bm, T, sv, -, rfl, -, hk, -⟩ := hb
    obtain ⟨sp, sc, rfl⟩ := bookR_slice hk
    clear hk
    go_wp2
    go_ret
    exact ⟨rfl, by first | exact hb1 | exact hb1.alloc hb1.size _⟩
  · go_wp2
    go_ret
    exact ⟨rfl, by first | exact hb1 | exact hb1.alloc hb1.size _⟩
end Go.Proofs.YtaccgciopmclhaaGreatDoor

/- The walks of the program's cookiePlaceOf and cookiePlace.has, and of the library's IndexFunc and ContainsFunc over it. Written by implplace.py. -/
namespace Go.Proofs.YtaccgciopmclhaaGreatDoor
open Go.RowKit

/-- a cookie's place, as a value -/
def placeV (c : Ck) : Value := .agg #[.string c.ho, .bool c.al, .string c.pa, .string c.pt, .string c.na]
theorem beq_turn {α : Type} [BEq α] [LawfulBEq α] (a b : α) : (a == b) = (b == a) := by
  rw [Bool.eq_iff_iff, beq_iff_eq, beq_iff_eq]; exact eq_comm
theorem sameK_comm (a b : Ck) : sameK a b = sameK b a := by
  unfold sameK
  rw [beq_turn a.ho.toList, beq_turn a.al, beq_turn a.pa.toList, beq_turn a.pt.toList, beq_turn a.na.toList]
set_option maxRecDepth 10000 in
set_option maxHeartbeats 1000000 in
theorem placeOf_any (c : Ck) (w : World) :
    Calls Tryz.prog 96 #[ckV c] w fun e w' => e = .returned (placeV c) ∧ Below w.heap.size w w' := by
  obtain ⟨na, va, ho, al, pa, se, mo, pt, un, ma⟩ := c
  unfold ckV placeV
  dsimp only
  go_enter Tryz.func96, Tryz.ntmps96
  go_wp2
  exact bodyPost_ret (v := .agg #[.string ho, .bool al, .string pa, .string pt, .string na]) (by simp [results, Tryz.results96, go_sem]) rfl ⟨rfl, ((Below.refl _ _).alloc (Nat.le_refl _) _).alloc (by simp) _⟩
set_option maxRecDepth 10000 in
set_option maxHeartbeats 4000000 in
theorem has_any (a c : Ck) (w : World) :
    Calls Tryz.prog 97 #[placeV a, ckV c] w fun e w' => e = .returned (.bool (sameK a c)) ∧ Below w.heap.size w w' := by
  have KP0 : ∀ W, Calls Tryz.prog 96 #[ckV c] W fun e w' => e = .returned (placeV c) ∧ Below W.heap.size W w' := fun W => placeOf_any c W
  have HE : Hid (sameK a c = ((a.ho.toList == c.ho.toList) && (a.al == c.al) && (a.pa.toList == c.pa.toList) && (a.pt.toList == c.pt.toList) && (a.na.toList == c.na.toList))) := rfl
  generalize sameK a c = R at *
  obtain ⟨na2, va2, ho2, al2, pa2, se2, mo2, pt2, un2, ma2⟩ := a
  obtain ⟨na, va, ho, al, pa, se, mo, pt, un, ma⟩ := c
  unfold ckV placeV at *
  dsimp only at *
  have KP : Hid (∀ W, Calls Tryz.prog 96 #[.agg #[.string na, .string va, .string ho, .bool al, .string pa, .bool se, .int .i64 mo, .string pt, .int .i64 un, .int .i64 ma]] W fun e w' => e = .returned (.agg #[.string ho, .bool al, .string pa, .string pt, .string na]) ∧ Below W.heap.size W w') := KP0
  clear KP0
  obtain ⟨W0, hW⟩ : ∃ W0, W0 = ((w.alloc (.cells #[.string ho2, .bool al2, .string pa2, .string pt2, .string na2] 149)).alloc (.cells #[.string na, .string va, .string ho, .bool al, .string pa, .bool se, .int .i64 mo, .string pt, .int .i64 un, .int .i64 ma] 125)) := ⟨_, rfl⟩
  have hW0 : Hid (W0 = ((w.alloc (.cells #[.string ho2, .bool al2, .string pa2, .string pt2, .string na2] 149)).alloc (.cells #[.string na, .string va, .string ho, .bool al, .string pa, .bool se, .int .i64 mo, .string pt, .int .i64 un, .int .i64 ma] 125))) := hW
  have HB : Hid (Below w.heap.size w W0) := by show Below _ _ _; rw [hW]; exact ((Below.refl _ _).alloc (Nat.le_refl _) _).alloc (by simp) _
  have z0 : w.heap.size < W0.heap.size := by rw [hW]; simp; omega
  have z1 : w.heap.size + 1 < W0.heap.size := by rw [hW]; simp
  have p0 : W0.cell? ⟨w.heap.size, 0, none⟩ = some (.string ho2) := by rw [hW]; simp
  have p1 : W0.cell? ⟨w.heap.size, 1, none⟩ = some (.bool al2) := by rw [hW]; simp
  have p2 : W0.cell? ⟨w.heap.size, 2, none⟩ = some (.string pa2) := by rw [hW]; simp
  have p3 : W0.cell? ⟨w.heap.size, 3, none⟩ = some (.string pt2) := by rw [hW]; simp
  have p4 : W0.cell? ⟨w.heap.size, 4, none⟩ = some (.string na2) := by rw [hW]; simp
  have q0 : W0.cell? ⟨w.heap.size + 1, 0, none⟩ = some (.string na) := by rw [hW]; exact (World.cell?_alloc_at _ _ _ _ (by simp)).trans rfl
  have q1 : W0.cell? ⟨w.heap.size + 1, 1, none⟩ = some (.string va) := by rw [hW]; exact (World.cell?_alloc_at _ _ _ _ (by simp)).trans rfl
  have q2 : W0.cell? ⟨w.heap.size + 1, 2, none⟩ = some (.string ho) := by rw [hW]; exact (World.cell?_alloc_at _ _ _ _ (by simp)).trans rfl
  have q3 : W0.cell? ⟨w.heap.size + 1, 3, none⟩ = some (.bool al) := by rw [hW]; exact (World.cell?_alloc_at _ _ _ _ (by simp)).trans rfl
  have q4 : W0.cell? ⟨w.heap.size + 1, 4, none⟩ = some (.string pa) := by rw [hW]; exact (World.cell?_alloc_at _ _ _ _ (by simp)).trans rfl
  have q5 : W0.cell? ⟨w.heap.size + 1, 5, none⟩ = some (.bool se) := by rw [hW]; exact (World.cell?_alloc_at _ _ _ _ (by simp)).trans rfl
  have q6 : W0.cell? ⟨w.heap.size + 1, 6, none⟩ = some (.int .i64 mo) := by rw [hW]; exact (World.cell?_alloc_at _ _ _ _ (by simp)).trans rfl
  have q7 : W0.cell? ⟨w.heap.size + 1, 7, none⟩ = some (.string pt) := by rw [hW]; exact (World.cell?_alloc_at _ _ _ _ (by simp)).trans rfl
  have q8 : W0.cell? ⟨w.heap.size + 1, 8, none⟩ = some (.int .i64 un) := by rw [hW]; exact (World.cell?_alloc_at _ _ _ _ (by simp)).trans rfl
  have q9 : W0.cell? ⟨w.heap.size + 1, 9, none⟩ = some (.int .i64 ma) := by rw [hW]; exact (World.cell?_alloc_at _ _ _ _ (by simp)).trans rfl
  clear hW
  cases h0 : (ho2.toList == ho.toList) with
  | false =>
    have HQ : Hid (R = false) := by show _ = _; rw [HE.out]; simp only [*]; try rfl
    go_enter Tryz.func97, Tryz.ntmps97
    go_wp2_with fail
    rw [← hW0.out]
    go_region_held3 (fun w' => w'.cell? ⟨w.heap.size, 0, none⟩ = some (.string ho2) ∧ w'.cell? ⟨w.heap.size, 1, none⟩ = some (.bool al2) ∧ w'.cell? ⟨w.heap.size, 2, none⟩ = some (.string pa2) ∧ w'.cell? ⟨w.heap.size, 3, none⟩ = some (.string pt2) ∧ w'.cell? ⟨w.heap.size, 4, none⟩ = some (.string na2) ∧ w'.cell? ⟨w.heap.size + 1, 0, none⟩ = some (.string na) ∧ w'.cell? ⟨w.heap.size + 1, 1, none⟩ = some (.string va) ∧ w'.cell? ⟨w.heap.size + 1, 2, none⟩ = some (.string ho) ∧ w'.cell? ⟨w.heap.size + 1, 3, none⟩ = some (.bool al) ∧ w'.cell? ⟨w.heap.size + 1, 4, none⟩ = some (.string pa) ∧ w'.cell? ⟨w.heap.size + 1, 5, none⟩ = some (.bool se) ∧ w'.cell? ⟨w.heap.size + 1, 6, none⟩ = some (.int .i64 mo) ∧ w'.cell? ⟨w.heap.size + 1, 7, none⟩ = some (.string pt) ∧ w'.cell? ⟨w.heap.size + 1, 8, none⟩ = some (.int .i64 un) ∧ w'.cell? ⟨w.heap.size + 1, 9, none⟩ = some (.int .i64 ma)) (go_keep)
      (first | (go_at_call 96; refine (KP.out _).mono ?_; rintro e w2 ⟨rfl, hb2⟩; have A2 : Below W0.heap.size W0 w2 := (Below.drew (Below.refl _ _)).trans hb2; have l0 : w2.cell? ⟨w.heap.size, 0, none⟩ = some (.string ho2) := ((bcell A2).1 _ _ z0).trans p0; have l1 : w2.cell? ⟨w.heap.size, 1, none⟩ = some (.bool al2) := ((bcell A2).1 _ _ z0).trans p1; have l2 : w2.cell? ⟨w.heap.size, 2, none⟩ = some (.string pa2) := ((bcell A2).1 _ _ z0).trans p2; have l3 : w2.cell? ⟨w.heap.size, 3, none⟩ = some (.string pt2) := ((bcell A2).1 _ _ z0).trans p3; have l4 : w2.cell? ⟨w.heap.size, 4, none⟩ = some (.string na2) := ((bcell A2).1 _ _ z0).trans p4; have m0 : w2.cell? ⟨w.heap.size + 1, 0, none⟩ = some (.string na) := ((bcell A2).1 _ _ z1).trans q0; have m1 : w2.cell? ⟨w.heap.size + 1, 1, none⟩ = some (.string va) := ((bcell A2).1 _ _ z1).trans q1; have m2 : w2.cell? ⟨w.heap.size + 1, 2, none⟩ = some (.string ho) := ((bcell A2).1 _ _ z1).trans q2; have m3 : w2.cell? ⟨w.heap.size + 1, 3, none⟩ = some (.bool al) := ((bcell A2).1 _ _ z1).trans q3; have m4 : w2.cell? ⟨w.heap.size + 1, 4, none⟩ = some (.string pa) := ((bcell A2).1 _ _ z1).trans q4; have m5 : w2.cell? ⟨w.heap.size + 1, 5, none⟩ = some (.bool se) := ((bcell A2).1 _ _ z1).trans q5; have m6 : w2.cell? ⟨w.heap.size + 1, 6, none⟩ = some (.int .i64 mo) := ((bcell A2).1 _ _ z1).trans q6; have m7 : w2.cell? ⟨w.heap.size + 1, 7, none⟩ = some (.string pt) := ((bcell A2).1 _ _ z1).trans q7; have m8 : w2.cell? ⟨w.heap.size + 1, 8, none⟩ = some (.int .i64 un) := ((bcell A2).1 _ _ z1).trans q8; have m9 : w2.cell? ⟨w.heap.size + 1, 9, none⟩ = some (.int .i64 ma) := ((bcell A2).1 _ _ z1).trans q9))
    have B2 : Hid (Below w.heap.size w w2) := HB.out.trans (A2.mono HB.out.size)
    all_goals go_wp2
    all_goals go_ret
    all_goals exact ⟨ret_bool HQ.out.symm, B2.out⟩
  | true =>
    cases h1 : (al2 == al) with
    | false =>
      have HQ : Hid (R = false) := by show _ = _; rw [HE.out]; simp only [*]; try rfl
      go_enter Tryz.func97, Tryz.ntmps97
      go_wp2_with fail
      rw [← hW0.out]
      go_region_held3 (fun w' => w'.cell? ⟨w.heap.size, 0, none⟩ = some (.string ho2) ∧ w'.cell? ⟨w.heap.size, 1, none⟩ = some (.bool al2) ∧ w'.cell? ⟨w.heap.size, 2, none⟩ = some (.string pa2) ∧ w'.cell? ⟨w.heap.size, 3, none⟩ = some (.string pt2) ∧ w'.cell? ⟨w.heap.size, 4, none⟩ = some (.string na2) ∧ w'.cell? ⟨w.heap.size + 1, 0, none⟩ = some (.string na) ∧ w'.cell? ⟨w.heap.size + 1, 1, none⟩ = some (.string va) ∧ w'.cell? ⟨w.heap.size + 1, 2, none⟩ = some (.string ho) ∧ w'.cell? ⟨w.heap.size + 1, 3, none⟩ = some (.bool al) ∧ w'.cell? ⟨w.heap.size + 1, 4, none⟩ = some (.string pa) ∧ w'.cell? ⟨w.heap.size + 1, 5, none⟩ = some (.bool se) ∧ w'.cell? ⟨w.heap.size + 1, 6, none⟩ = some (.int .i64 mo) ∧ w'.cell? ⟨w.heap.size + 1, 7, none⟩ = some (.string pt) ∧ w'.cell? ⟨w.heap.size + 1, 8, none⟩ = some (.int .i64 un) ∧ w'.cell? ⟨w.heap.size + 1, 9, none⟩ = some (.int .i64 ma)) (go_keep)
        (first | (go_at_call 96; refine (KP.out _).mono ?_; rintro e w2 ⟨rfl, hb2⟩; have A2 : Below W0.heap.size W0 w2 := (Below.drew (Below.refl _ _)).trans hb2; have l0 : w2.cell? ⟨w.heap.size, 0, none⟩ = some (.string ho2) := ((bcell A2).1 _ _ z0).trans p0; have l1 : w2.cell? ⟨w.heap.size, 1, none⟩ = some (.bool al2) := ((bcell A2).1 _ _ z0).trans p1; have l2 : w2.cell? ⟨w.heap.size, 2, none⟩ = some (.string pa2) := ((bcell A2).1 _ _ z0).trans p2; have l3 : w2.cell? ⟨w.heap.size, 3, none⟩ = some (.string pt2) := ((bcell A2).1 _ _ z0).trans p3; have l4 : w2.cell? ⟨w.heap.size, 4, none⟩ = some (.string na2) := ((bcell A2).1 _ _ z0).trans p4; have m0 : w2.cell? ⟨w.heap.size + 1, 0, none⟩ = some (.string na) := ((bcell A2).1 _ _ z1).trans q0; have m1 : w2.cell? ⟨w.heap.size + 1, 1, none⟩ = some (.string va) := ((bcell A2).1 _ _ z1).trans q1; have m2 : w2.cell? ⟨w.heap.size + 1, 2, none⟩ = some (.string ho) := ((bcell A2).1 _ _ z1).trans q2; have m3 : w2.cell? ⟨w.heap.size + 1, 3, none⟩ = some (.bool al) := ((bcell A2).1 _ _ z1).trans q3; have m4 : w2.cell? ⟨w.heap.size + 1, 4, none⟩ = some (.string pa) := ((bcell A2).1 _ _ z1).trans q4; have m5 : w2.cell? ⟨w.heap.size + 1, 5, none⟩ = some (.bool se) := ((bcell A2).1 _ _ z1).trans q5; have m6 : w2.cell? ⟨w.heap.size + 1, 6, none⟩ = some (.int .i64 mo) := ((bcell A2).1 _ _ z1).trans q6; have m7 : w2.cell? ⟨w.heap.size + 1, 7, none⟩ = some (.string pt) := ((bcell A2).1 _ _ z1).trans q7; have m8 : w2.cell? ⟨w.heap.size + 1, 8, none⟩ = some (.int .i64 un) := ((bcell A2).1 _ _ z1).trans q8; have m9 : w2.cell? ⟨w.heap.size + 1, 9, none⟩ = some (.int .i64 ma) := ((bcell A2).1 _ _ z1).trans q9))
      have B2 : Hid (Below w.heap.size w w2) := HB.out.trans (A2.mono HB.out.size)
      all_goals go_wp2
      all_goals go_ret
      all_goals exact ⟨ret_bool HQ.out.symm, B2.out⟩
    | true =>
      cases h2 : (pa2.toList == pa.toList) with
      | false =>
        have HQ : Hid (R = false) := by show _ = _; rw [HE.out]; simp only [*]; try rfl
        go_enter Tryz.func97, Tryz.ntmps97
        go_wp2_with fail
        rw [← hW0.out]
        go_region_held3 (fun w' => w'.cell? ⟨w.heap.size, 0, none⟩ = some (.string ho2) ∧ w'.cell? ⟨w.heap.size, 1, none⟩ = some (.bool al2) ∧ w'.cell? ⟨w.heap.size, 2, none⟩ = some (.string pa2) ∧ w'.cell? ⟨w.heap.size, 3, none⟩ = some (.string pt2) ∧ w'.cell? ⟨w.heap.size, 4, none⟩ = some (.string na2) ∧ w'.cell? ⟨w.heap.size + 1, 0, none⟩ = some (.string na) ∧ w'.cell? ⟨w.heap.size + 1, 1, none⟩ = some (.string va) ∧ w'.cell? ⟨w.heap.size + 1, 2, none⟩ = some (.string ho) ∧ w'.cell? ⟨w.heap.size + 1, 3, none⟩ = some (.bool al) ∧ w'.cell? ⟨w.heap.size + 1, 4, none⟩ = some (.string pa) ∧ w'.cell? ⟨w.heap.size + 1, 5, none⟩ = some (.bool se) ∧ w'.cell? ⟨w.heap.size + 1, 6, none⟩ = some (.int .i64 mo) ∧ w'.cell? ⟨w.heap.size + 1, 7, none⟩ = some (.string pt) ∧ w'.cell? ⟨w.heap.size + 1, 8, none⟩ = some (.int .i64 un) ∧ w'.cell? ⟨w.heap.size + 1, 9, none⟩ = some (.int .i64 ma)) (go_keep)
          (first | (go_at_call 96; refine (KP.out _).mono ?_; rintro e w2 ⟨rfl, hb2⟩; have A2 : Below W0.heap.size W0 w2 := (Below.drew (Below.refl _ _)).trans hb2; have l0 : w2.cell? ⟨w.heap.size, 0, none⟩ = some (.string ho2) := ((bcell A2).1 _ _ z0).trans p0; have l1 : w2.cell? ⟨w.heap.size, 1, none⟩ = some (.bool al2) := ((bcell A2).1 _ _ z0).trans p1; have l2 : w2.cell? ⟨w.heap.size, 2, none⟩ = some (.string pa2) := ((bcell A2).1 _ _ z0).trans p2; have l3 : w2.cell? ⟨w.heap.size, 3, none⟩ = some (.string pt2) := ((bcell A2).1 _ _ z0).trans p3; have l4 : w2.cell? ⟨w.heap.size, 4, none⟩ = some (.string na2) := ((bcell A2).1 _ _ z0).trans p4; have m0 : w2.cell? ⟨w.heap.size + 1, 0, none⟩ = some (.string na) := ((bcell A2).1 _ _ z1).trans q0; have m1 : w2.cell? ⟨w.heap.size + 1, 1, none⟩ = some (.string va) := ((bcell A2).1 _ _ z1).trans q1; have m2 : w2.cell? ⟨w.heap.size + 1, 2, none⟩ = some (.string ho) := ((bcell A2).1 _ _ z1).trans q2; have m3 : w2.cell? ⟨w.heap.size + 1, 3, none⟩ = some (.bool al) := ((bcell A2).1 _ _ z1).trans q3; have m4 : w2.cell? ⟨w.heap.size + 1, 4, none⟩ = some (.string pa) := ((bcell A2).1 _ _ z1).trans q4; have m5 : w2.cell? ⟨w.heap.size + 1, 5, none⟩ = some (.bool se) := ((bcell A2).1 _ _ z1).trans q5; have m6 : w2.cell? ⟨w.heap.size + 1, 6, none⟩ = some (.int .i64 mo) := ((bcell A2).1 _ _ z1).trans q6; have m7 : w2.cell? ⟨w.heap.size + 1, 7, none⟩ = some (.string pt) := ((bcell A2).1 _ _ z1).trans q7; have m8 : w2.cell? ⟨w.heap.size + 1, 8, none⟩ = some (.int .i64 un) := ((bcell A2).1 _ _ z1).trans q8; have m9 : w2.cell? ⟨w.heap.size + 1, 9, none⟩ = some (.int .i64 ma) := ((bcell A2).1 _ _ z1).trans q9))
        have B2 : Hid (Below w.heap.size w w2) := HB.out.trans (A2.mono HB.out.size)
        all_goals go_wp2
        all_goals go_ret
        all_goals exact ⟨ret_bool HQ.out.symm, B2.out⟩
      | true =>
        cases h3 : (pt2.toList == pt.toList) with
        | false =>
          have HQ : Hid (R = false) := by show _ = _; rw [HE.out]; simp only [*]; try rfl
          go_enter Tryz.func97, Tryz.ntmps97
          go_wp2_with fail
          rw [← hW0.out]
          go_region_held3 (fun w' => w'.cell? ⟨w.heap.size, 0, none⟩ = some (.string ho2) ∧ w'.cell? ⟨w.heap.size, 1, none⟩ = some (.bool al2) ∧ w'.cell? ⟨w.heap.size, 2, none⟩ = some (.string pa2) ∧ w'.cell? ⟨w.heap.size, 3, none⟩ = some (.string pt2) ∧ w'.cell? ⟨w.heap.size, 4, none⟩ = some (.string na2) ∧ w'.cell? ⟨w.heap.size + 1, 0, none⟩ = some (.string na) ∧ w'.cell? ⟨w.heap.size + 1, 1, none⟩ = some (.string va) ∧ w'.cell? ⟨w.heap.size + 1, 2, none⟩ = some (.string ho) ∧ w'.cell? ⟨w.heap.size + 1, 3, none⟩ = some (.bool al) ∧ w'.cell? ⟨w.heap.size + 1, 4, none⟩ = some (.string pa) ∧ w'.cell? ⟨w.heap.size + 1, 5, none⟩ = some (.bool se) ∧ w'.cell? ⟨w.heap.size + 1, 6, none⟩ = some (.int .i64 mo) ∧ w'.cell? ⟨w.heap.size + 1, 7, none⟩ = some (.string pt) ∧ w'.cell? ⟨w.heap.size + 1, 8, none⟩ = some (.int .i64 un) ∧ w'.cell? ⟨w.heap.size + 1, 9, none⟩ = some (.int .i64 ma)) (go_keep)
            (first | (go_at_call 96; refine (KP.out _).mono ?_; rintro e w2 ⟨rfl, hb2⟩; have A2 : Below W0.heap.size W0 w2 := (Below.drew (Below.refl _ _)).trans hb2; have l0 : w2.cell? ⟨w.heap.size, 0, none⟩ = some (.string ho2) := ((bcell A2).1 _ _ z0).trans p0; have l1 : w2.cell? ⟨w.heap.size, 1, none⟩ = some (.bool al2) := ((bcell A2).1 _ _ z0).trans p1; have l2 : w2.cell? ⟨w.heap.size, 2, none⟩ = some (.string pa2) := ((bcell A2).1 _ _ z0).trans p2; have l3 : w2.cell? ⟨w.heap.size, 3, none⟩ = some (.string pt2) := ((bcell A2).1 _ _ z0).trans p3; have l4 : w2.cell? ⟨w.heap.size, 4, none⟩ = some (.string na2) := ((bcell A2).1 _ _ z0).trans p4; have m0 : w2.cell? ⟨w.heap.size + 1, 0, none⟩ = some (.string na) := ((bcell A2).1 _ _ z1).trans q0; have m1 : w2.cell? ⟨w.heap.size + 1, 1, none⟩ = some (.string va) := ((bcell A2).1 _ _ z1).trans q1; have m2 : w2.cell? ⟨w.heap.size + 1, 2, none⟩ = some (.string ho) := ((bcell A2).1 _ _ z1).trans q2; have m3 : w2.cell? ⟨w.heap.size + 1, 3, none⟩ = some (.bool al) := ((bcell A2).1 _ _ z1).trans q3; have m4 : w2.cell? ⟨w.heap.size + 1, 4, none⟩ = some (.string pa) := ((bcell A2).1 _ _ z1).trans q4; have m5 : w2.cell? ⟨w.heap.size + 1, 5, none⟩ = some (.bool se) := ((bcell A2).1 _ _ z1).trans q5; have m6 : w2.cell? ⟨w.heap.size + 1, 6, none⟩ = some (.int .i64 mo) := ((bcell A2).1 _ _ z1).trans q6; have m7 : w2.cell? ⟨w.heap.size + 1, 7, none⟩ = some (.string pt) := ((bcell A2).1 _ _ z1).trans q7; have m8 : w2.cell? ⟨w.heap.size + 1, 8, none⟩ = some (.int .i64 un) := ((bcell A2).1 _ _ z1).trans q8; have m9 : w2.cell? ⟨w.heap.size + 1, 9, none⟩ = some (.int .i64 ma) := ((bcell A2).1 _ _ z1).trans q9))
          have B2 : Hid (Below w.heap.size w w2) := HB.out.trans (A2.mono HB.out.size)
          all_goals go_wp2
          all_goals go_ret
          all_goals exact ⟨ret_bool HQ.out.symm, B2.out⟩
        | true =>
          cases h4 : (na2.toList == na.toList) with
          | false =>
            have HQ : Hid (R = false) := by show _ = _; rw [HE.out]; simp only [*]; try rfl
            go_enter Tryz.func97, Tryz.ntmps97
            go_wp2_with fail
            rw [← hW0.out]
            go_region_held3 (fun w' => w'.cell? ⟨w.heap.size, 0, none⟩ = some (.string ho2) ∧ w'.cell? ⟨w.heap.size, 1, none⟩ = some (.bool al2) ∧ w'.cell? ⟨w.heap.size, 2, none⟩ = some (.string pa2) ∧ w'.cell? ⟨w.heap.size, 3, none⟩ = some (.string pt2) ∧ w'.cell? ⟨w.heap.size, 4, none⟩ = some (.string na2) ∧ w'.cell? ⟨w.heap.size + 1, 0, none⟩ = some (.string na) ∧ w'.cell? ⟨w.heap.size + 1, 1, none⟩ = some (.string va) ∧ w'.cell? ⟨w.heap.size + 1, 2, none⟩ = some (.string ho) ∧ w'.cell? ⟨w.heap.size + 1, 3, none⟩ = some (.bool al) ∧ w'.cell? ⟨w.heap.size + 1, 4, none⟩ = some (.string pa) ∧ w'.cell? ⟨w.heap.size + 1, 5, none⟩ = some (.bool se) ∧ w'.cell? ⟨w.heap.size + 1, 6, none⟩ = some (.int .i64 mo) ∧ w'.cell? ⟨w.heap.size + 1, 7, none⟩ = some (.string pt) ∧ w'.cell? ⟨w.heap.size + 1, 8, none⟩ = some (.int .i64 un) ∧ w'.cell? ⟨w.heap.size + 1, 9, none⟩ = some (.int .i64 ma)) (go_keep)
              (first | (go_at_call 96; refine (KP.out _).mono ?_; rintro e w2 ⟨rfl, hb2⟩; have A2 : Below W0.heap.size W0 w2 := (Below.drew (Below.refl _ _)).trans hb2; have l0 : w2.cell? ⟨w.heap.size, 0, none⟩ = some (.string ho2) := ((bcell A2).1 _ _ z0).trans p0; have l1 : w2.cell? ⟨w.heap.size, 1, none⟩ = some (.bool al2) := ((bcell A2).1 _ _ z0).trans p1; have l2 : w2.cell? ⟨w.heap.size, 2, none⟩ = some (.string pa2) := ((bcell A2).1 _ _ z0).trans p2; have l3 : w2.cell? ⟨w.heap.size, 3, none⟩ = some (.string pt2) := ((bcell A2).1 _ _ z0).trans p3; have l4 : w2.cell? ⟨w.heap.size, 4, none⟩ = some (.string na2) := ((bcell A2).1 _ _ z0).trans p4; have m0 : w2.cell? ⟨w.heap.size + 1, 0, none⟩ = some (.string na) := ((bcell A2).1 _ _ z1).trans q0; have m1 : w2.cell? ⟨w.heap.size + 1, 1, none⟩ = some (.string va) := ((bcell A2).1 _ _ z1).trans q1; have m2 : w2.cell? ⟨w.heap.size + 1, 2, none⟩ = some (.string ho) := ((bcell A2).1 _ _ z1).trans q2; have m3 : w2.cell? ⟨w.heap.size + 1, 3, none⟩ = some (.bool al) := ((bcell A2).1 _ _ z1).trans q3; have m4 : w2.cell? ⟨w.heap.size + 1, 4, none⟩ = some (.string pa) := ((bcell A2).1 _ _ z1).trans q4; have m5 : w2.cell? ⟨w.heap.size + 1, 5, none⟩ = some (.bool se) := ((bcell A2).1 _ _ z1).trans q5; have m6 : w2.cell? ⟨w.heap.size + 1, 6, none⟩ = some (.int .i64 mo) := ((bcell A2).1 _ _ z1).trans q6; have m7 : w2.cell? ⟨w.heap.size + 1, 7, none⟩ = some (.string pt) := ((bcell A2).1 _ _ z1).trans q7; have m8 : w2.cell? ⟨w.heap.size + 1, 8, none⟩ = some (.int .i64 un) := ((bcell A2).1 _ _ z1).trans q8; have m9 : w2.cell? ⟨w.heap.size + 1, 9, none⟩ = some (.int .i64 ma) := ((bcell A2).1 _ _ z1).trans q9))
            have B2 : Hid (Below w.heap.size w w2) := HB.out.trans (A2.mono HB.out.size)
            all_goals go_wp2
            all_goals go_ret
            all_goals exact ⟨ret_bool HQ.out.symm, B2.out⟩
          | true =>
            have HQ : Hid (R = true) := by show _ = _; rw [HE.out]; simp only [*]; try rfl
            go_enter Tryz.func97, Tryz.ntmps97
            go_wp2_with fail
            rw [← hW0.out]
            go_region_held3 (fun w' => w'.cell? ⟨w.heap.size, 0, none⟩ = some (.string ho2) ∧ w'.cell? ⟨w.heap.size, 1, none⟩ = some (.bool al2) ∧ w'.cell? ⟨w.heap.size, 2, none⟩ = some (.string pa2) ∧ w'.cell? ⟨w.heap.size, 3, none⟩ = some (.string pt2) ∧ w'.cell? ⟨w.heap.size, 4, none⟩ = some (.string na2) ∧ w'.cell? ⟨w.heap.size + 1, 0, none⟩ = some (.string na) ∧ w'.cell? ⟨w.heap.size + 1, 1, none⟩ = some (.string va) ∧ w'.cell? ⟨w.heap.size + 1, 2, none⟩ = some (.string ho) ∧ w'.cell? ⟨w.heap.size + 1, 3, none⟩ = some (.bool al) ∧ w'.cell? ⟨w.heap.size + 1, 4, none⟩ = some (.string pa) ∧ w'.cell? ⟨w.heap.size + 1, 5, none⟩ = some (.bool se) ∧ w'.cell? ⟨w.heap.size + 1, 6, none⟩ = some (.int .i64 mo) ∧ w'.cell? ⟨w.heap.size + 1, 7, none⟩ = some (.string pt) ∧ w'.cell? ⟨w.heap.size + 1, 8, none⟩ = some (.int .i64 un) ∧ w'.cell? ⟨w.heap.size + 1, 9, none⟩ = some (.int .i64 ma)) (go_keep)
              (first | (go_at_call 96; refine (KP.out _).mono ?_; rintro e w2 ⟨rfl, hb2⟩; have A2 : Below W0.heap.size W0 w2 := (Below.drew (Below.refl _ _)).trans hb2; have l0 : w2.cell? ⟨w.heap.size, 0, none⟩ = some (.string ho2) := ((bcell A2).1 _ _ z0).trans p0; have l1 : w2.cell? ⟨w.heap.size, 1, none⟩ = some (.bool al2) := ((bcell A2).1 _ _ z0).trans p1; have l2 : w2.cell? ⟨w.heap.size, 2, none⟩ = some (.string pa2) := ((bcell A2).1 _ _ z0).trans p2; have l3 : w2.cell? ⟨w.heap.size, 3, none⟩ = some (.string pt2) := ((bcell A2).1 _ _ z0).trans p3; have l4 : w2.cell? ⟨w.heap.size, 4, none⟩ = some (.string na2) := ((bcell A2).1 _ _ z0).trans p4; have m0 : w2.cell? ⟨w.heap.size + 1, 0, none⟩ = some (.string na) := ((bcell A2).1 _ _ z1).trans q0; have m1 : w2.cell? ⟨w.heap.size + 1, 1, none⟩ = some (.string va) := ((bcell A2).1 _ _ z1).trans q1; have m2 : w2.cell? ⟨w.heap.size + 1, 2, none⟩ = some (.string ho) := ((bcell A2).1 _ _ z1).trans q2; have m3 : w2.cell? ⟨w.heap.size + 1, 3, none⟩ = some (.bool al) := ((bcell A2).1 _ _ z1).trans q3; have m4 : w2.cell? ⟨w.heap.size + 1, 4, none⟩ = some (.string pa) := ((bcell A2).1 _ _ z1).trans q4; have m5 : w2.cell? ⟨w.heap.size + 1, 5, none⟩ = some (.bool se) := ((bcell A2).1 _ _ z1).trans q5; have m6 : w2.cell? ⟨w.heap.size + 1, 6, none⟩ = some (.int .i64 mo) := ((bcell A2).1 _ _ z1).trans q6; have m7 : w2.cell? ⟨w.heap.size + 1, 7, none⟩ = some (.string pt) := ((bcell A2).1 _ _ z1).trans q7; have m8 : w2.cell? ⟨w.heap.size + 1, 8, none⟩ = some (.int .i64 un) := ((bcell A2).1 _ _ z1).trans q8; have m9 : w2.cell? ⟨w.heap.size + 1, 9, none⟩ = some (.int .i64 ma) := ((bcell A2).1 _ _ z1).trans q9))
            have B2 : Hid (Below w.heap.size w w2) := HB.out.trans (A2.mono HB.out.size)
            all_goals go_wp2
            all_goals go_ret
            all_goals exact ⟨ret_bool HQ.out.symm, B2.out⟩

/-- one of the first k is of this place -/
def hasK (L : List Ck) (k : Nat) (a : Ck) : Bool := !decide (∀ j, j < k → sameK (atC L j) a = false)
theorem hasK_yes {L : List Ck} {k : Nat} {a : Ck} (j : Nat) (hj : j < k) (h : sameK a (atC L j) = true) : hasK L k a = true := by
  unfold hasK
  rw [decide_eq_false (fun h' => by rw [sameK_comm, h' j hj] at h; cases h)]; rfl
theorem hasK_no {L : List Ck} {k : Nat} {a : Ck} (h : ∀ j, j < k → sameK a (atC L j) = false) : hasK L k a = false := by
  unfold hasK
  rw [decide_eq_true (fun j hj => by rw [sameK_comm]; exact h j hj)]; rfl
set_option maxRecDepth 10000 in
set_option maxHeartbeats 4000000 in
theorem containsHas_any (g k : Nat) (L : List Ck) (a : Ck) (w : World) (hg : g < w.heap.size) (hk : k ≤ L.length) (hn : L.length ≤ 1048576) (hc : ∀ j, j < k → ∀ o, o < 10 → w.cell? ⟨g, j * 10 + o, none⟩ = some (ckC (atC L j) o)) :
    Calls Tryz.prog 95 #[.slice (some ⟨g, 0, none⟩) k k, .func (.func 97) #[placeV a] #[]] w fun e w' => e = .returned (.bool (hasK L k a)) ∧ Below w.heap.size w w' := by
  have KI : Hid (Calls Tryz.prog 143 #[.slice (some ⟨g, 0, none⟩) k k, .func (.func 97) #[placeV a] #[]] w fun e w' => (∃ r : Int, e = .returned (.int .i64 r) ∧ decide (0 ≤ r) = hasK L k a) ∧ Below w.heap.size w w') := by
    show Calls _ _ _ _ _
    have KH : Hid (∀ j W, Calls Tryz.prog 97 #[placeV a, ckV (atC L j)] W fun e w' => e = .returned (.bool (sameK a (atC L j))) ∧ Below W.heap.size W w') := fun j W => has_any a (atC L j) W
    have HY : Hid (∀ j, j < k → sameK a (atC L j) = true → hasK L k a = true) := fun j a b => hasK_yes j a b
    have HN : Hid ((∀ j, j < k → sameK a (atC L j) = false) → hasK L k a = false) := fun h => hasK_no h
    have HC : Hid (∀ j, j < k → ∀ o, o < 10 → w.cell? ⟨g, j * 10 + o, none⟩ = some (ckC (atC L j) o)) := hc
    clear hc
    generalize hasK L k a = R at *
    go_enter Tryz.func143, Tryz.ntmps143
    go_wp2
    go_loopw [8] (fun i wr => ∃ j : Nat, j ≤ k ∧ i = .int .i64 j ∧ Hid (Below w.heap.size w wr) ∧ Hid (∀ i', i' < j → sameK a (atC L i') = false)) (fun i _ => k - (intOf i).toNat)
    case atStart => exact ⟨0, Nat.zero_le _, rfl, Below.refl _ _, fun j hj => absurd hj (by omega)⟩
    case round =>
      obtain ⟨j, hj, rfl, HB, HR⟩ := hrel
      by_cases hlt : j < k
      · have KH0 := KH.out j
        have j0 : (0 : Int) ≤ j := by omega
        have j1 : (j : Int) < k := by omega
        have HY1 : Hid (sameK a (atC L j) = true → R = true) := HY.out j hlt
        have HN1 : Hid (sameK a (atC L j) = false → ∀ i', i' < j + 1 → sameK a (atC L i') = false) := fun e i' hi' => by
          by_cases e2 : i' = j
          · subst e2; exact e
          · exact HR.out i' (by omega)
        have c0 : wr.cell? ⟨g, j * 10, none⟩ = some (.string (atC L j).na) := by rw [(bcell HB.out).1 _ _ hg]; exact HC.out j hlt 0 (by omega)
        have c1 : wr.cell? ⟨g, j * 10 + 1, none⟩ = some (.string (atC L j).va) := by rw [(bcell HB.out).1 _ _ hg]; exact HC.out j hlt 1 (by omega)
        have c2 : wr.cell? ⟨g, j * 10 + 2, none⟩ = some (.string (atC L j).ho) := by rw [(bcell HB.out).1 _ _ hg]; exact HC.out j hlt 2 (by omega)
        have c3 : wr.cell? ⟨g, j * 10 + 3, none⟩ = some (.bool (atC L j).al) := by rw [(bcell HB.out).1 _ _ hg]; exact HC.out j hlt 3 (by omega)
        have c4 : wr.cell? ⟨g, j * 10 + 4, none⟩ = some (.string (atC L j).pa) := by rw [(bcell HB.out).1 _ _ hg]; exact HC.out j hlt 4 (by omega)
        have c5 : wr.cell? ⟨g, j * 10 + 5, none⟩ = some (.bool (atC L j).se) := by rw [(bcell HB.out).1 _ _ hg]; exact HC.out j hlt 5 (by omega)
        have c6 : wr.cell? ⟨g, j * 10 + 6, none⟩ = some (.int .i64 (atC L j).mo) := by rw [(bcell HB.out).1 _ _ hg]; exact HC.out j hlt 6 (by omega)
        have c7 : wr.cell? ⟨g, j * 10 + 7, none⟩ = some (.string (atC L j).pt) := by rw [(bcell HB.out).1 _ _ hg]; exact HC.out j hlt 7 (by omega)
        have c8 : wr.cell? ⟨g, j * 10 + 8, none⟩ = some (.int .i64 (atC L j).un) := by rw [(bcell HB.out).1 _ _ hg]; exact HC.out j hlt 8 (by omega)
        have c9 : wr.cell? ⟨g, j * 10 + 9, none⟩ = some (.int .i64 (atC L j).ma) := by rw [(bcell HB.out).1 _ _ hg]; exact HC.out j hlt 9 (by omega)
        generalize hsm : sameK a (atC L j) = sm at *
        clear hsm
        generalize atC L j = y at *
        obtain ⟨na, va, ho, al, pa, se, mo, pt, un, ma⟩ := y
        unfold ckV at KH0
        dsimp only at *
        have KC : Hid (∀ W, Calls Tryz.prog 97 #[placeV a, .agg #[.string na, .string va, .string ho, .bool al, .string pa, .bool se, .int .i64 mo, .string pt, .int .i64 un, .int .i64 ma]] W fun e w' => e = .returned (.bool sm) ∧ Below W.heap.size W w') := KH0
        clear KH0
        generalize placeV a = pv at *
        go_wp2_with fail
        refine (KC.out _).mono ?_
        rintro e w2 ⟨rfl, hb2⟩
        have B2 : Hid (Below w.heap.size w w2) := HB.out.trans (hb2.mono HB.out.size)
        clear hb2
        cases sm with
        | true =>
          have HQ : Hid (R = true) := HY1.out rfl
          go_wp2
          go_ret
          exact ⟨⟨_, rfl, by rw [HQ.out, decide_eq_true_iff]; omega⟩, B2.out⟩
        | false =>
          have HN2 : Hid (∀ i', i' < j + 1 → sameK a (atC L i') = false) := HN1.out rfl
          go_wp2
          go_roundw
          case rel => exact ⟨j + 1, by omega, by go_num, B2, HN2⟩
          case measure => simp [intOf]; omega
      · have HQ : Hid (R = false) := HN.out (fun i hi => HR.out i (by omega))
        go_wp2
        go_ret
        exact ⟨⟨_, rfl, by rw [HQ.out]; decide⟩, HB.out⟩
  generalize hasK L k a = R at *
  generalize placeV a = pv at *
  go_enter Tryz.func95, Tryz.ntmps95
  go_wp2_with fail
  refine KI.out.mono ?_
  rintro e w2 ⟨⟨r, rfl, hr⟩, hb2⟩
  have HQ : Hid (decide (0 ≤ r) = R) := hr
  clear hr
  go_wp2
  go_ret
  exact ⟨ret_bool HQ.out, hb2⟩
end Go.Proofs.YtaccgciopmclhaaGreatDoor

/- The walks of the program's isSmall, isDigit, inWord and WordRight. Written by implword.py. -/
namespace Go.Proofs.YtaccgciopmclhaaGreatDoor
open Go.RowKit

def betw (n lo hi : Nat) : Bool := decide (lo ≤ n ∧ n ≤ hi)
theorem betw_yes {n lo hi : Nat} (h1 : lo ≤ n) (h2 : n ≤ hi) : betw n lo hi = true := by unfold betw; rw [decide_eq_true_iff]; exact ⟨h1, h2⟩
theorem betw_no {n lo hi : Nat} (h : ¬ (lo ≤ n ∧ n ≤ hi)) : betw n lo hi = false := by unfold betw; rw [decide_eq_false_iff_not]; exact h
set_option maxRecDepth 10000 in
theorem isSmallW_any (n : Nat) (w : World) : Calls Tryz.prog 178 #[.int .u8 (n : Int)] w fun e w' => e = .returned (.bool (betw n 97 122)) ∧ w' = w := by
  rcases (show (n < 97) ∨ (97 ≤ n ∧ n ≤ 122) ∨ (122 < n) by omega) with c1 | ⟨c1, c2⟩ | c1
  · have b1 : decide ((97 : Int) ≤ (n : Int)) = false := by rw [decide_eq_false_iff_not]; omega
    go_enter Tryz.func178, Tryz.ntmps178
    go_wp2
    go_ret
    exact ⟨ret_bool (betw_no (by omega)).symm, rfl⟩
  · go_enter Tryz.func178, Tryz.ntmps178
    go_wp2
    go_ret
    exact ⟨ret_bool (by rw [betw_yes c1 c2, decide_eq_true_iff]; omega), rfl⟩
  · have b1 : decide ((n : Int) ≤ 122) = false := by rw [decide_eq_false_iff_not]; omega
    go_enter Tryz.func178, Tryz.ntmps178
    go_wp2
    go_ret
    exact ⟨ret_bool (betw_no (by omega)).symm, rfl⟩
set_option maxRecDepth 10000 in
theorem isDigitW_any (n : Nat) (w : World) : Calls Tryz.prog 179 #[.int .u8 (n : Int)] w fun e w' => e = .returned (.bool (betw n 48 57)) ∧ w' = w := by
  rcases (show (n < 48) ∨ (48 ≤ n ∧ n ≤ 57) ∨ (57 < n) by omega) with c1 | ⟨c1, c2⟩ | c1
  · have b1 : decide ((48 : Int) ≤ (n : Int)) = false := by rw [decide_eq_false_iff_not]; omega
    go_enter Tryz.func179, Tryz.ntmps179
    go_wp2
    go_ret
    exact ⟨ret_bool (betw_no (by omega)).symm, rfl⟩
  · go_enter Tryz.func179, Tryz.ntmps179
    go_wp2
    go_ret
    exact ⟨ret_bool (by rw [betw_yes c1 c2, decide_eq_true_iff]; omega), rfl⟩
  · have b1 : decide ((n : Int) ≤ 57) = false := by rw [decide_eq_false_iff_not]; omega
    go_enter Tryz.func179, Tryz.ntmps179
    go_wp2
    go_ret
    exact ⟨ret_bool (betw_no (by omega)).symm, rfl⟩
set_option maxRecDepth 10000 in
set_option maxHeartbeats 2000000 in
theorem inWord_any (n : Nat) (w : World) : Calls Tryz.prog 192 #[.int .u8 (n : Int)] w fun e w' => e = .returned (.bool (wordC n)) ∧ w' = w := by
  have K1 : Hid (∀ W, Calls Tryz.prog 178 #[.int .u8 (n : Int)] W fun e w' => e = .returned (.bool (betw n 97 122)) ∧ w' = W) := fun W => isSmallW_any n W
  have K2 : Hid (∀ W, Calls Tryz.prog 179 #[.int .u8 (n : Int)] W fun e w' => e = .returned (.bool (betw n 48 57)) ∧ w' = W) := fun W => isDigitW_any n W
  rcases (show (n ≤ 44) ∨ (45 ≤ n ∧ n ≤ 45) ∨ (46 ≤ n ∧ n ≤ 46) ∨ (47 ≤ n ∧ n ≤ 47) ∨ (48 ≤ n ∧ n ≤ 57) ∨ (58 ≤ n ∧ n ≤ 64) ∨ (65 ≤ n ∧ n ≤ 90) ∨ (91 ≤ n ∧ n ≤ 94) ∨ (95 ≤ n ∧ n ≤ 95) ∨ (96 ≤ n ∧ n ≤ 96) ∨ (97 ≤ n ∧ n ≤ 122) ∨ (123 ≤ n) by omega)
    with c1 | ⟨c1, c2⟩ | ⟨c1, c2⟩ | ⟨c1, c2⟩ | ⟨c1, c2⟩ | ⟨c1, c2⟩ | ⟨c1, c2⟩ | ⟨c1, c2⟩ | ⟨c1, c2⟩ | ⟨c1, c2⟩ | ⟨c1, c2⟩ | c1
  · have HW : Hid (wordC n = false) := wordC_no (by omega)
    rw [betw_no (by omega)] at K1
    rw [betw_no (by omega)] at K2
    have b1 : decide ((65 : Int) ≤ (n : Int)) = false := by rw [decide_eq_false_iff_not]; omega
    have b2 : decide ((n : Int) ≤ 90) = true := by rw [decide_eq_true_iff]; omega
    have b3 : ((n : Int) == 95) = false := by rw [beq_eq_false_iff_ne]; omega
    have b4 : ((n : Int) == 45) = false := by rw [beq_eq_false_iff_ne]; omega
    have b5 : ((n : Int) == 46) = false := by rw [beq_eq_false_iff_ne]; omega
    go_enter Tryz.func192, Tryz.ntmps192
    go_wp2_with (first | (go_at_call 178; refine (K1.out _).mono ?_; rintro e w1 ⟨rfl, rfl⟩) | (go_at_call 179; refine (K2.out _).mono ?_; rintro e w2 ⟨rfl, rfl⟩))
    go_ret
    exact ⟨ret_bool HW.out.symm, rfl⟩
  · have HW : Hid (wordC n = true) := wordC_yes (by omega)
    rw [betw_no (by omega)] at K1
    rw [betw_no (by omega)] at K2
    have b1 : decide ((65 : Int) ≤ (n : Int)) = false := by rw [decide_eq_false_iff_not]; omega
    have b2 : decide ((n : Int) ≤ 90) = true := by rw [decide_eq_true_iff]; omega
    have b3 : ((n : Int) == 95) = false := by rw [beq_eq_false_iff_ne]; omega
    have b4 : ((n : Int) == 45) = true := by rw [beq_iff_eq]; omega
    have b5 : ((n : Int) == 46) = false := by rw [beq_eq_false_iff_ne]; omega
    go_enter Tryz.func192, Tryz.ntmps192
    go_wp2_with (first | (go_at_call 178; refine (K1.out _).mono ?_; rintro e w1 ⟨rfl, rfl⟩) | (go_at_call 179; refine (K2.out _).mono ?_; rintro e w2 ⟨rfl, rfl⟩))
    go_ret
    exact ⟨ret_bool HW.out.symm, rfl⟩
  · have HW : Hid (wordC n = true) := wordC_yes (by omega)
    rw [betw_no (by omega)] at K1
    rw [betw_no (by omega)] at K2
    have b1 : decide ((65 : Int) ≤ (n : Int)) = false := by rw [decide_eq_false_iff_not]; omega
    have b2 : decide ((n : Int) ≤ 90) = true := by rw [decide_eq_true_iff]; omega
    have b3 : ((n : Int) == 95) = false := by rw [beq_eq_false_iff_ne]; omega
    have b4 : ((n : Int) == 45) = false := by rw [beq_eq_false_iff_ne]; omega
    have b5 : ((n : Int) == 46) = true := by rw [beq_iff_eq]; omega
    go_enter Tryz.func192, Tryz.ntmps192
    go_wp2_with (first | (go_at_call 178; refine (K1.out _).mono ?_; rintro e w1 ⟨rfl, rfl⟩) | (go_at_call 179; refine (K2.out _).mono ?_; rintro e w2 ⟨rfl, rfl⟩))
    go_ret
    exact ⟨ret_bool HW.out.symm, rfl⟩
  · have HW : Hid (wordC n = false) := wordC_no (by omega)
    rw [betw_no (by omega)] at K1
    rw [betw_no (by omega)] at K2
    have b1 : decide ((65 : Int) ≤ (n : Int)) = false := by rw [decide_eq_false_iff_not]; omega
    have b2 : decide ((n : Int) ≤ 90) = true := by rw [decide_eq_true_iff]; omega
    have b3 : ((n : Int) == 95) = false := by rw [beq_eq_false_iff_ne]; omega
    have b4 : ((n : Int) == 45) = false := by rw [beq_eq_false_iff_ne]; omega
    have b5 : ((n : Int) == 46) = false := by rw [beq_eq_false_iff_ne]; omega
    go_enter Tryz.func192, Tryz.ntmps192
    go_wp2_with (first | (go_at_call 178; refine (K1.out _).mono ?_; rintro e w1 ⟨rfl, rfl⟩) | (go_at_call 179; refine (K2.out _).mono ?_; rintro e w2 ⟨rfl, rfl⟩))
    go_ret
    exact ⟨ret_bool HW.out.symm, rfl⟩
  · have HW : Hid (wordC n = true) := wordC_yes (by omega)
    rw [betw_no (by omega)] at K1
    rw [betw_yes (by omega) (by omega)] at K2
    have b1 : decide ((65 : Int) ≤ (n : Int)) = false := by rw [decide_eq_false_iff_not]; omega
    have b2 : decide ((n : Int) ≤ 90) = true := by rw [decide_eq_true_iff]; omega
    have b3 : ((n : Int) == 95) = false := by rw [beq_eq_false_iff_ne]; omega
    have b4 : ((n : Int) == 45) = false := by rw [beq_eq_false_iff_ne]; omega
    have b5 : ((n : Int) == 46) = false := by rw [beq_eq_false_iff_ne]; omega
    go_enter Tryz.func192, Tryz.ntmps192
    go_wp2_with (first | (go_at_call 178; refine (K1.out _).mono ?_; rintro e w1 ⟨rfl, rfl⟩) | (go_at_call 179; refine (K2.out _).mono ?_; rintro e w2 ⟨rfl, rfl⟩))
    go_ret
    exact ⟨ret_bool HW.out.symm, rfl⟩
  · have HW : Hid (wordC n = false) := wordC_no (by omega)
    rw [betw_no (by omega)] at K1
    rw [betw_no (by omega)] at K2
    have b1 : decide ((65 : Int) ≤ (n : Int)) = false := by rw [decide_eq_false_iff_not]; omega
    have b2 : decide ((n : Int) ≤ 90) = true := by rw [decide_eq_true_iff]; omega
    have b3 : ((n : Int) == 95) = false := by rw [beq_eq_false_iff_ne]; omega
    have b4 : ((n : Int) == 45) = false := by rw [beq_eq_false_iff_ne]; omega
    have b5 : ((n : Int) == 46) = false := by rw [beq_eq_false_iff_ne]; omega
    go_enter Tryz.func192, Tryz.ntmps192
    go_wp2_with (first | (go_at_call 178; refine (K1.out _).mono ?_; rintro e w1 ⟨rfl, rfl⟩) | (go_at_call 179; refine (K2.out _).mono ?_; rintro e w2 ⟨rfl, rfl⟩))
    go_ret
    exact ⟨ret_bool HW.out.symm, rfl⟩
  · have HW : Hid (wordC n = true) := wordC_yes (by omega)
    rw [betw_no (by omega)] at K1
    rw [betw_no (by omega)] at K2
    have b1 : decide ((65 : Int) ≤ (n : Int)) = true := by rw [decide_eq_true_iff]; omega
    have b2 : decide ((n : Int) ≤ 90) = true := by rw [decide_eq_true_iff]; omega
    have b3 : ((n : Int) == 95) = false := by rw [beq_eq_false_iff_ne]; omega
    have b4 : ((n : Int) == 45) = false := by rw [beq_eq_false_iff_ne]; omega
    have b5 : ((n : Int) == 46) = false := by rw [beq_eq_false_iff_ne]; omega
    go_enter Tryz.func192, Tryz.ntmps192
    go_wp2_with (first | (go_at_call 178; refine (K1.out _).mono ?_; rintro e w1 ⟨rfl, rfl⟩) | (go_at_call 179; refine (K2.out _).mono ?_; rintro e w2 ⟨rfl, rfl⟩))
    go_ret
    exact ⟨ret_bool HW.out.symm, rfl⟩
  · have HW : Hid (wordC n = false) := wordC_no (by omega)
    rw [betw_no (by omega)] at K1
    rw [betw_no (by omega)] at K2
    have b1 : decide ((65 : Int) ≤ (n : Int)) = true := by rw [decide_eq_true_iff]; omega
    have b2 : decide ((n : Int) ≤ 90) = false := by rw [decide_eq_false_iff_not]; omega
    have b3 : ((n : Int) == 95) = false := by rw [beq_eq_false_iff_ne]; omega
    have b4 : ((n : Int) == 45) = false := by rw [beq_eq_false_iff_ne]; omega
    have b5 : ((n : Int) == 46) = false := by rw [beq_eq_false_iff_ne]; omega
    go_enter Tryz.func192, Tryz.ntmps192
    go_wp2_with (first | (go_at_call 178; refine (K1.out _).mono ?_; rintro e w1 ⟨rfl, rfl⟩) | (go_at_call 179; refine (K2.out _).mono ?_; rintro e w2 ⟨rfl, rfl⟩))
    go_ret
    exact ⟨ret_bool HW.out.symm, rfl⟩
  · have HW : Hid (wordC n = true) := wordC_yes (by omega)
    rw [betw_no (by omega)] at K1
    rw [betw_no (by omega)] at K2
    have b1 : decide ((65 : Int) ≤ (n : Int)) = true := by rw [decide_eq_true_iff]; omega
    have b2 : decide ((n : Int) ≤ 90) = false := by rw [decide_eq_false_iff_not]; omega
    have b3 : ((n : Int) == 95) = true := by rw [beq_iff_eq]; omega
    have b4 : ((n : Int) == 45) = false := by rw [beq_eq_false_iff_ne]; omega
    have b5 : ((n : Int) == 46) = false := by rw [beq_eq_false_iff_ne]; omega
    go_enter Tryz.func192, Tryz.ntmps192
    go_wp2_with (first | (go_at_call 178; refine (K1.out _).mono ?_; rintro e w1 ⟨rfl, rfl⟩) | (go_at_call 179; refine (K2.out _).mono ?_; rintro e w2 ⟨rfl, rfl⟩))
    go_ret
    exact ⟨ret_bool HW.out.symm, rfl⟩
  · have HW : Hid (wordC n = false) := wordC_no (by omega)
    rw [betw_no (by omega)] at K1
    rw [betw_no (by omega)] at K2
    have b1 : decide ((65 : Int) ≤ (n : Int)) = true := by rw [decide_eq_true_iff]; omega
    have b2 : decide ((n : Int) ≤ 90) = false := by rw [decide_eq_false_iff_not]; omega
    have b3 : ((n : Int) == 95) = false := by rw [beq_eq_false_iff_ne]; omega
    have b4 : ((n : Int) == 45) = false := by rw [beq_eq_false_iff_ne]; omega
    have b5 : ((n : Int) == 46) = false := by rw [beq_eq_false_iff_ne]; omega
    go_enter Tryz.func192, Tryz.ntmps192
    go_wp2_with (first | (go_at_call 178; refine (K1.out _).mono ?_; rintro e w1 ⟨rfl, rfl⟩) | (go_at_call 179; refine (K2.out _).mono ?_; rintro e w2 ⟨rfl, rfl⟩))
    go_ret
    exact ⟨ret_bool HW.out.symm, rfl⟩
  · have HW : Hid (wordC n = true) := wordC_yes (by omega)
    rw [betw_yes (by omega) (by omega)] at K1
    rw [betw_no (by omega)] at K2
    have b1 : decide ((65 : Int) ≤ (n : Int)) = true := by rw [decide_eq_true_iff]; omega
    have b2 : decide ((n : Int) ≤ 90) = false := by rw [decide_eq_false_iff_not]; omega
    have b3 : ((n : Int) == 95) = false := by rw [beq_eq_false_iff_ne]; omega
    have b4 : ((n : Int) == 45) = false := by rw [beq_eq_false_iff_ne]; omega
    have b5 : ((n : Int) == 46) = false := by rw [beq_eq_false_iff_ne]; omega
    go_enter Tryz.func192, Tryz.ntmps192
    go_wp2_with (first | (go_at_call 178; refine (K1.out _).mono ?_; rintro e w1 ⟨rfl, rfl⟩) | (go_at_call 179; refine (K2.out _).mono ?_; rintro e w2 ⟨rfl, rfl⟩))
    go_ret
    exact ⟨ret_bool HW.out.symm, rfl⟩
  · have HW : Hid (wordC n = false) := wordC_no (by omega)
    rw [betw_no (by omega)] at K1
    rw [betw_no (by omega)] at K2
    have b1 : decide ((65 : Int) ≤ (n : Int)) = true := by rw [decide_eq_true_iff]; omega
    have b2 : decide ((n : Int) ≤ 90) = false := by rw [decide_eq_false_iff_not]; omega
    have b3 : ((n : Int) == 95) = false := by rw [beq_eq_false_iff_ne]; omega
    have b4 : ((n : Int) == 45) = false := by rw [beq_eq_false_iff_ne]; omega
    have b5 : ((n : Int) == 46) = false := by rw [beq_eq_false_iff_ne]; omega
    go_enter Tryz.func192, Tryz.ntmps192
    go_wp2_with (first | (go_at_call 178; refine (K1.out _).mono ?_; rintro e w1 ⟨rfl, rfl⟩) | (go_at_call 179; refine (K2.out _).mono ?_; rintro e w2 ⟨rfl, rfl⟩))
    go_ret
    exact ⟨ret_bool HW.out.symm, rfl⟩

theorem wordB_long {t : ByteArray} (h : 20 < t.size) : wordB t = false := by unfold wordB; rw [decide_eq_false (show ¬ t.size ≤ 20 by omega), Bool.and_false]
set_option maxRecDepth 10000 in
set_option maxHeartbeats 2000000 in
theorem wordRight_any (t : ByteArray) (w : World) :
    Calls Tryz.prog 175 #[.string t] w fun e w' => e = .returned (.bool (wordB t)) ∧ w' = w := by
  by_cases h20 : 20 < t.size
  · have HR : Hid (wordB t = false) := wordB_long h20
    go_enter Tryz.func175, Tryz.ntmps175
    go_wp2
    go_ret
    exact ⟨ret_bool HR.out.symm, rfl⟩
  have HA : Hid ((∀ k (h : k < t.size), wordC t[k].toNat = false → wordB t = false) ∧ ((∀ i (h : i < t.size), wordC t[i].toNat = true) → wordB t = true)) := ⟨fun k h hk => wordB_at k h hk, fun h => by rw [wordB_all h, decide_eq_true_iff]; omega⟩
  generalize wordB t = R at *
  have q20 : decide ((20 : Int) < (t.size : Int)) = false := by rw [decide_eq_false_iff_not]; omega
  go_enter Tryz.func175, Tryz.ntmps175
  go_wp2
  go_loop [9] (fun i => ∃ k : Nat, k ≤ t.size ∧ i = .int .i64 k ∧ Hid (∀ i (h : i < t.size), i < k → wordC t[i].toNat = true)) (fun i => t.size - (intOf i).toNat)
  case atStart => exact ⟨0, Nat.zero_le _, rfl, fun i _ hi => absurd hi (by omega)⟩
  case round =>
    obtain ⟨k, hk, rfl, HR⟩ := hrel
    by_cases hlt : k < t.size
    · have k0 : (0 : Int) ≤ k := by omega
      have k1 : (k : Int) < t.size := by omega
      have KW : Hid (∀ W, Calls Tryz.prog 192 #[.int .u8 (t[k].toNat : Int)] W fun e w' => e = .returned (.bool (wordC t[k].toNat)) ∧ w' = W) := fun W => inWord_any _ W
      cases hc : wordC t[k].toNat with
      | true =>
        rw [hc] at KW
        have HN : Hid (∀ i (h : i < t.size), i < k + 1 → wordC t[i].toNat = true) := fun i h hi => by
          by_cases e : i = k
          · subst e; exact hc
          · exact HR.out i h (by omega)
        clear hc
        go_wp2_with (go_at_call 192; refine (KW.out _).mono ?_; rintro e w1 ⟨rfl, rfl⟩)
        go_round
        case rel => exact ⟨k + 1, by omega, by go_num, HN⟩
        case measure => simp [intOf]; omega
      | false =>
        rw [hc] at KW
        have HQ : Hid (R = false) := HA.out.1 k hlt hc
        clear hc
        go_wp2_with (go_at_call 192; refine (KW.out _).mono ?_; rintro e w1 ⟨rfl, rfl⟩)
        go_ret
        exact ⟨ret_bool HQ.out.symm, rfl⟩
    · go_wp2
      go_ret
      exact ⟨ret_bool (HA.out.2 (fun i h => HR.out i h (by omega))).symm, rfl⟩
end Go.Proofs.YtaccgciopmclhaaGreatDoor

/- The walk of the specification's l04PairRight. -/
namespace Go.Proofs.YtaccgciopmclhaaGreatDoor
open Go.RowKit

def pairV (na va : ByteArray) : Value := .agg #[.string na, .string va]
def pairB (na va : ByteArray) : Bool := !na.toList.isEmpty && wordB na && wordB va
end Go.Proofs.YtaccgciopmclhaaGreatDoor

/- A text's pieces between '; ', a piece cut at its first '='; the walks of the specification's l04Pieces and l04Pair. -/
namespace Go.Proofs.YtaccgciopmclhaaGreatDoor
open Go.RowKit

theorem find_in {t x : ByteArray} (h : 0 ≤ findI t x) : (findI t x).toNat + x.size ≤ t.size ∧ findI t x = ((findI t x).toNat : Int) := by
  refine ⟨?_, by omega⟩
  unfold findI findN at *
  cases hf : findTo t x (t.size + 1) with
  | some k =>
    have := (findTo_lt hf).2.1
    simpa using this
  | none => rw [hf] at h; simp at h
theorem findI_neg {t x : ByteArray} (h : ¬ 0 ≤ findI t x) : findI t x = -1 := by
  unfold findI findN at *
  cases hf : findTo t x (t.size + 1) with
  | some k => rw [hf] at h; simp at h
  | none => rfl
/-- '; ' -/
def semi : ByteArray := ⟨#[59, 32]⟩
/-- the pieces of a text between '; ' -/
def piecesL (t : ByteArray) : List ByteArray :=
  if h : 0 ≤ findI t semi then t.extract 0 (findI t semi).toNat :: piecesL (t.extract ((findI t semi).toNat + 2) t.size) else [t]
termination_by t.size
decreasing_by
  have := (find_in h).1
  have e : semi.size = 2 := rfl
  rw [e] at this
  rw [ByteArray.size_extract]; omega
theorem piecesL_more {t : ByteArray} {k : Nat} (h : findI t semi = k) : piecesL t = t.extract 0 k :: piecesL (t.extract (k + 2) t.size) := by
  rw [piecesL, dif_pos (by omega)]
  have e : (findI t semi).toNat = k := by omega
  rw [e]
theorem piecesL_last {t : ByteArray} (h : ¬ 0 ≤ findI t semi) : piecesL t = [t] := by rw [piecesL, dif_neg h]
theorem piecesL_len (t : ByteArray) : (piecesL t).length ≤ t.size + 1 := by
  generalize hn : t.size = n
  induction n using Nat.strongRecOn generalizing t with
  | _ n ih =>
    by_cases h : 0 ≤ findI t semi
    · obtain ⟨h1, h2⟩ := find_in h
      have e : semi.size = 2 := rfl
      rw [e] at h1
      have hz : (t.extract ((findI t semi).toNat + 2) t.size).size = t.size - ((findI t semi).toNat + 2) := by rw [ByteArray.size_extract]; omega
      rw [piecesL_more h2, List.length_cons]
      have := ih _ (by omega) (t.extract ((findI t semi).toNat + 2) t.size) hz
      omega
    · rw [piecesL_last h]; simp
theorem piecesL_small (t : ByteArray) : ∀ x ∈ piecesL t, x.size ≤ t.size := by
  generalize hn : t.size = n
  induction n using Nat.strongRecOn generalizing t with
  | _ n ih =>
    intro x hx
    by_cases h : 0 ≤ findI t semi
    · obtain ⟨h1, h2⟩ := find_in h
      have e : semi.size = 2 := rfl
      rw [e] at h1
      have hz : (t.extract ((findI t semi).toNat + 2) t.size).size = t.size - ((findI t semi).toNat + 2) := by rw [ByteArray.size_extract]; omega
      rw [piecesL_more h2, List.mem_cons] at hx
      rcases hx with hx | hx
      · rw [hx, ByteArray.size_extract]; omega
      · have := ih _ (by omega) (t.extract ((findI t semi).toNat + 2) t.size) hz x hx
        omega
    · rw [piecesL_last h, List.mem_singleton] at hx
      rw [hx]; omega
def szV : Value → Nat
  | .string s => s.size
  | _ => 0

end Go.Proofs.YtaccgciopmclhaaGreatDoor

/- A piece cut at its first '='; the walk of the specification's l04Pair. -/
namespace Go.Proofs.YtaccgciopmclhaaGreatDoor
open Go.RowKit

/-- '=' -/
def equ : ByteArray := ⟨#[61]⟩
/-- a piece's name and value -/
def pairP (t : ByteArray) : ByteArray × ByteArray := if 0 ≤ findI t equ then (t.extract 0 (findI t equ).toNat, t.extract ((findI t equ).toNat + 1) t.size) else (t, ⟨#[]⟩)
theorem pairP_yes {t : ByteArray} {k : Nat} (h : findI t equ = k) : pairP t = (t.extract 0 k, t.extract (k + 1) t.size) := by
  have e : (findI t equ).toNat = k := by omega
  rw [pairP, if_pos (by omega), e]
theorem pairP_no {t : ByteArray} (h : ¬ 0 ≤ findI t equ) : pairP t = (t, ⟨#[]⟩) := by rw [pairP, if_neg h]
theorem pairP_size (t : ByteArray) : (pairP t).1.size ≤ t.size ∧ (pairP t).2.size ≤ t.size := by
  unfold pairP
  split
  · exact ⟨by rw [ByteArray.size_extract]; omega, by rw [ByteArray.size_extract]; omega⟩
  · exact ⟨Nat.le_refl _, Nat.zero_le _⟩

end Go.Proofs.YtaccgciopmclhaaGreatDoor

/- The walks of the program's pairRight and pairText. Written by implset.py. -/
namespace Go.Proofs.YtaccgciopmclhaaGreatDoor
open Go.RowKit

set_option maxRecDepth 10000 in
set_option maxHeartbeats 2000000 in
theorem pairRight_any (na va : ByteArray) (w : World) :
    Calls Tryz.prog 138 #[pairV na va] w fun e w' => e = .returned (.bool (pairB na va)) ∧ Below w.heap.size w w' := by
  have K1 : Hid (∀ W, Calls Tryz.prog 175 #[.string na] W fun e w' => e = .returned (.bool (wordB na)) ∧ w' = W) := fun W => wordRight_any na W
  have K2 : Hid (∀ W, Calls Tryz.prog 175 #[.string va] W fun e w' => e = .returned (.bool (wordB va)) ∧ w' = W) := fun W => wordRight_any va W
  have HP : Hid (pairB na va = (!na.toList.isEmpty && wordB na && wordB va)) := rfl
  generalize pairB na va = R at *
  generalize wordB na = b1 at *
  generalize wordB va = b2 at *
  unfold pairV
  cases he : na.toList.isEmpty with
  | true =>
    have HR : Hid (R = false) := by show _ = _; rw [HP.out, he]; rfl
    go_enter Tryz.func138, Tryz.ntmps138
    go_wp2
    go_ret
    exact ⟨ret_bool HR.out.symm, (Below.refl _ _).alloc (Nat.le_refl _) _⟩
  | false =>
    cases b1 with
    | false =>
      have HR : Hid (R = false) := by show _ = _; rw [HP.out, he]; rfl
      go_enter Tryz.func138, Tryz.ntmps138
      go_wp2_with fail
      refine (K1.out _).mono ?_
      rintro e w1 ⟨rfl, rfl⟩
      go_wp2
      go_ret
      exact ⟨ret_bool HR.out.symm, (Below.refl _ _).alloc (Nat.le_refl _) _⟩
    | true =>
      have HR : Hid (R = b2) := by show _ = _; rw [HP.out, he]; cases b2 <;> rfl
      go_enter Tryz.func138, Tryz.ntmps138
      go_wp2_with fail
      refine (K1.out _).mono ?_
      rintro e w1 ⟨rfl, rfl⟩
      go_wp2_with fail
      refine (K2.out _).mono ?_
      rintro e w2 ⟨rfl, rfl⟩
      go_wp2
      go_ret
      exact ⟨ret_bool HR.out.symm, (Below.refl _ _).alloc (Nat.le_refl _) _⟩
end Go.Proofs.YtaccgciopmclhaaGreatDoor

/- The walks of the program's pairRight, modeRight and SetRight. Written by implset.py. -/
namespace Go.Proofs.YtaccgciopmclhaaGreatDoor
open Go.RowKit

set_option maxRecDepth 10000 in
set_option maxHeartbeats 1000000 in
theorem modeRight_any (mo : Int) (w : World) :
    Calls Tryz.prog 141 #[.int .i64 mo] w fun e w' => e = .returned (.bool (modeB mo)) ∧ w' = w := by
  have HM : Hid (modeB mo = (decide (0 ≤ mo) && decide (mo ≤ 2))) := rfl
  generalize modeB mo = R at *
  by_cases h0 : 0 ≤ mo
  · have q0 : decide ((0 : Int) ≤ mo) = true := by rw [decide_eq_true_iff]; exact h0
    go_enter Tryz.func141, Tryz.ntmps141
    go_wp2
    go_ret
    exact ⟨ret_bool (by rw [HM.out, q0]; rfl), rfl⟩
  · have q0 : decide ((0 : Int) ≤ mo) = false := by rw [decide_eq_false_iff_not]; exact h0
    go_enter Tryz.func141, Tryz.ntmps141
    go_wp2
    go_ret
    exact ⟨ret_bool (by rw [HM.out, q0]; rfl), rfl⟩
end Go.Proofs.YtaccgciopmclhaaGreatDoor
