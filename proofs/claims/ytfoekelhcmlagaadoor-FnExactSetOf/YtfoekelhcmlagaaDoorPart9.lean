/- 5 of this claim's texts, one behind the other. -/
import Derived.Test.YtfoekelhcmlagaaDoorPart8
import Derived.Test.YtfoekelhcmlagaaDoorPart4
import Derived.Handed
import Derived.Lay
import Derived.MakeChecks
import Derived.Lib.LaidTab
import Derived.Stop.LaidErr
import Derived.Laws.IdiomArrays
import Derived.LaidLaws
import Derived.WalkSmall
import Derived.Carry
import Derived.ChangeVars
import Derived.OpenShut
/- The laws' marks of one answer, a set: markSiteSet, heldSiteSet; an answer in its box. -/
namespace Go.Proofs.YtfoekelhcmlagaaDoor
open Go.RowKit

theorem MarkOn.block {B E : Nat} {w w' : World} (h : MarkOn B E w w') : ∀ b, b < w.heap.size → (b < B ∨ E ≤ b) → ∀ o, w'.cell? ⟨b, o, none⟩ = w.cell? ⟨b, o, none⟩ := by
  induction h with
  | refl => intro b _ _ o; rfl
  | on hm hb ih => intro b h1 h2 o; rw [(bcell hb).1 _ _ (Nat.lt_of_lt_of_le h1 hm.size)]; exact ih b h1 h2 o
  | put c o' s t _ hB hE _ ih =>
    intro b h1 h2 o
    rw [World.cell?_setCell_other _ _ _ _ (by intro h; injection h with h; omega)]
    exact ih b h1 h2 o
/-- an answer in box b: a text and a slice of texts -/
def Ans (w : World) (b B : Nat) (p : ByteArray) (u : Value) (n : Nat) (f : Nat → ByteArray) : Prop := b < w.heap.size ∧ w.cell? ⟨b, 0, none⟩ = some (.string p) ∧ w.cell? ⟨b, 1, none⟩ = some u ∧ SliceS w B u n f
theorem Ans.below {w w' : World} {b B n : Nat} {p : ByteArray} {u : Value} {f : Nat → ByteArray} (h : Ans w b B p u n f) (hb : Below w.heap.size w w') : Ans w' b B p u n f :=
  ⟨Nat.lt_of_lt_of_le h.1 hb.size, ((bcell hb).1 _ _ h.1).trans h.2.1, ((bcell hb).1 _ _ h.1).trans h.2.2.1, h.2.2.2.below hb⟩
theorem Ans.mark {w w' : World} {b B n C E : Nat} {p : ByteArray} {u : Value} {f : Nat → ByteArray} (h : Ans w b B p u n f) (hm : MarkOn C E w w') (h1 : b < C ∨ E ≤ b) (h2 : 0 < n → ∀ g, u.ownBlock = some g → g < C ∨ E ≤ g) : Ans w' b B p u n f :=
  ⟨Nat.lt_of_lt_of_le h.1 hm.size, (hm.block b h.1 h1 0).trans h.2.1, (hm.block b h.1 h1 1).trans h.2.2.1, h.2.2.2.out hm h2⟩
theorem Ans.box {w : World} {B n : Nat} {p : ByteArray} {u : Value} {f : Nat → ByteArray} (t : TypeId) (h : SliceS w B u n f) : Ans (w.alloc (.cells #[.string p, u] t)) w.heap.size B p u n f :=
  ⟨by simp, by simp, by simp, h.below ((Below.refl _ _).alloc (Nat.le_refl _) _)⟩
set_option maxRecDepth 10000 in
set_option maxHeartbeats 1000000 in
theorem markStr_one (a : Value) (n B q G : Nat) (f : Nat → ByteArray) (w : World) (ha : SliceS w B a n f) (hG : 0 < n → a.ownBlock = some G) (hn : n ≤ 1048576) (hq : 0 < q) (hq2 : q ≤ 4611686018427387904) :
    Calls Tryd.prog 41 #[a, .int .i64 (q : Int)] w fun e w' => e = .returned (.int .i64 ((q + n : Nat) : Int)) ∧ SliceS w' B a n (fun j => markT (q + j)) ∧ MarkOn G (G + 1) w w' := by
  obtain ⟨p, cap, rfl, h1⟩ := ha
  have HG : Hid (0 < n → p = some ⟨G, 0, none⟩) := fun h => by
    obtain ⟨g, e, -⟩ := h1 h
    have e2 := hG h
    rw [e] at e2
    obtain rfl : g = G := Option.some.inj e2
    exact e
  clear hG
  have HS0 : Hid (SliceS w B (.slice p n cap) n (marked f q 0)) := by
    refine SliceS.ext ⟨p, cap, rfl, h1⟩ (fun j hj => ?_)
    unfold marked; rw [if_neg (by omega)]
  clear h1
  have HM : Hid (∀ (m : Nat) (W : World), 0 < m → m ≤ 9223372036854775807 → Calls Tryd.prog 100 #[.int .i64 (m : Int)] W fun e w' => e = .returned (.string (markT m)) ∧ Below W.heap.size W w') := fun m W h1 h2 => markText_any m W h1 h2
  go_enter Tryd.func41, Tryd.ntmps41
  go_wp2
  go_loopw [1, 5] (fun kk i wr => ∃ k : Nat, k ≤ n ∧ i = .int .i64 k ∧ kk = .int .i64 ((q + k : Nat) : Int) ∧ Hid (MarkOn G (G + 1) w wr) ∧ Hid (SliceS wr B (.slice p n cap) n (marked f q k))) (fun _ i _ => n - (intOf i).toNat)
  case atStart => exact ⟨0, by omega, rfl, rfl, .refl, HS0⟩
  case round =>
    obtain ⟨k, hk, rfl, rfl, HB, HR⟩ := hrel
    by_cases hlt : k < n
    · obtain rfl := HG.out (by omega)
      have k0 : (0 : Int) ≤ k := by omega
      have k1 : (k : Int) < (n : Int) := by omega
      have HN : Hid (∀ W, Calls Tryd.prog 100 #[.int .i64 ((q : Int) + (k : Int))] W fun e w' => e = .returned (.string (markT (q + k))) ∧ Below W.heap.size W w') := fun W => HM.out (q + k) W (by omega) (by omega)
      clear HM
      go_wp2_with fail
      refine (HN.out _).mono ?_
      rintro e w1 ⟨rfl, hb⟩
      have hf1 := HR.out.below hb
      obtain ⟨p', c', e', h4⟩ := id hf1
      injection e' with e1 e2 e3
      obtain ⟨g', e5, hBg, hgw, h6⟩ := h4 (by omega)
      rw [← e1] at e5
      injection e5 with e5
      injection e5 with e5
      subst e5
      have c1 := (h6 k hlt).1
      have c2 := (h6 k hlt).2
      have HB1 : Hid (MarkOn G (G + 1) w (w1.setCell ⟨G, k, none⟩ (.string (markT (q + k))))) := (HB.out.on hb).put G k _ _ (Nat.le_refl _) (by omega) c1
      have HR1 : Hid (SliceS (w1.setCell ⟨G, k, none⟩ (.string (markT (q + k)))) B (.slice (some ⟨G, 0, none⟩) n cap) n (marked f q (k + 1))) := by
        refine ⟨_, _, rfl, fun _ => ⟨G, rfl, hBg, by simpa [World.setCell] using hgw, fun j hj => ?_⟩⟩
        by_cases e : j = k
        · subst e
          rw [marked_at]
          exact ⟨World.cell?_setCell_same _ _ _ c1, by rw [World.frozen?_setCell]; exact c2⟩
        · rw [marked_step f q k j e, World.cell?_setCell_other _ _ _ _ (by intro h; injection h with _ h; exact e h.symm), World.frozen?_setCell]
          exact h6 j hj
      clear hb hf1 h4 h6 e1 e2 e3 HR HB HS0 hBg hgw
      generalize markT (q + k) = t at *
      generalize marked f q k k = x at *
      go_wp2
      go_roundw
      case rel => exact ⟨k + 1, by omega, by go_num, by go_num, HB1, HR1⟩
      case measure => simp [intOf]; omega
    · obtain rfl : k = n := by omega
      have HS : Hid (SliceS wr B (.slice p k cap) k (fun j => markT (q + j))) := HR.out.ext (fun j hj => marked_all f q k j hj)
      go_wp2
      go_ret
      exact ⟨rfl, HS.out, HB.out⟩
set_option maxRecDepth 10000 in
set_option maxHeartbeats 1000000 in
theorem markSet_one (p : ByteArray) (u : Value) (n B G : Nat) (f : Nat → ByteArray) (w : World) (ha : SliceS w B u n f) (hG : 0 < n → u.ownBlock = some G) (hn : n ≤ 1048576) :
    Calls Tryd.prog 43 #[.agg #[.string p, u], .int .i64 1] w fun e w' => e = .returned (.int .i64 ((1 + n : Nat) : Int)) ∧ SliceS w' B u n (fun j => markT (1 + j)) ∧ MarkOn G (G + 1) w w' := by
  have KM : Hid (∀ W, Below w.heap.size w W → Calls Tryd.prog 41 #[u, .int .i64 1] W fun e w' => e = .returned (.int .i64 ((1 + n : Nat) : Int)) ∧ SliceS w' B u n (fun j => markT (1 + j)) ∧ MarkOn G (G + 1) W w') := fun W hb => markStr_one u n B 1 G f W (ha.below hb) hG hn (by decide) (by decide)
  have HB0 : Hid (∀ x : Obj, Below w.heap.size w (w.alloc x)) := fun x => (Below.refl _ _).alloc (Nat.le_refl _) _
  obtain ⟨q, c, rfl, -⟩ := ha
  clear hG
  go_enter Tryd.func43, Tryd.ntmps43
  go_wp2_with fail
  refine (KM.out _ (HB0.out _)).mono ?_
  rintro e w1 ⟨rfl, s1, m1⟩
  have M1 : Hid (MarkOn G (G + 1) w w1) := (MarkOn.on .refl (HB0.out _)).trans m1
  have S1 : Hid (SliceS w1 B (.slice q n c) n (fun j => markT (1 + j))) := s1
  clear m1 s1
  go_wp2
  go_ret
  exact ⟨rfl, S1.out, M1.out⟩
set_option maxRecDepth 10000 in
set_option maxHeartbeats 1000000 in
theorem heldSet_one (p : ByteArray) (u : Value) (n B : Nat) (w : World) (ha : SliceS w B u n (fun j => markT (1 + j))) (hn : n ≤ 1048576) :
    Calls Tryd.prog 44 #[.agg #[.string p, u], .int .i64 1] w fun e w' => e = .returned (.int .i64 ((1 + n : Nat) : Int)) ∧ Below w.heap.size w w' := by
  have KM : Hid (∀ W, Below w.heap.size w W → Calls Tryd.prog 101 #[u, .int .i64 1] W fun e w' => e = .returned (.int .i64 ((1 + n : Nat) : Int)) ∧ Below W.heap.size W w') := fun W hb => heldStringS_any u n B 1 W (ha.below hb) hn (by decide) (by decide)
  have HB0 : Hid (∀ x : Obj, Below w.heap.size w (w.alloc x)) := fun x => (Below.refl _ _).alloc (Nat.le_refl _) _
  obtain ⟨q, c, rfl, -⟩ := ha
  have hq : decide ((((1 + n : Nat) : Int)) < 0) = false := by rw [decide_eq_false_iff_not]; omega
  generalize hr : ((1 + n : Nat) : Int) = r at *
  clear hr
  go_enter Tryd.func44, Tryd.ntmps44
  go_wp2_with fail
  refine (KM.out _ (HB0.out _)).mono ?_
  rintro e w1 ⟨rfl, b1⟩
  have B1 : Hid (Below w.heap.size w w1) := (HB0.out _).trans (b1.mono (HB0.out _).size)
  clear b1
  go_wp2
  go_ret
  exact ⟨rfl, B1.out⟩
end Go.Proofs.YtfoekelhcmlagaaDoor

/- The law FnExactSetOf, walked. Written by lawsetof.py. -/
namespace Go.Proofs.YtfoekelhcmlagaaDoor
open Go.RowKit Go.Maps

set_option maxRecDepth 10000 in
set_option maxHeartbeats 4000000 in
theorem lawSetOf_any (a0 : Option Addr) (n cap0 : Nat) (f : Nat → ByteArray) (a1 : Option Addr) (cap1 : Nat) (L : List SetL) (a : ByteArray) (w : World) (hG : MaxI w) (hE : ErrsI w) (hr0 : StrRow w a0 n f) (hn0 : n ≤ maxLen) (hr1 : SetRow w a1 L) (hn1 : L.length ≤ maxLen) :
    Calls Tryd.prog 6 #[.slice a0 n cap0, .slice a1 L.length cap1, .string a] w fun e w' => e = .returned (.bool true) ∧ Below w.heap.size w w' := by
  have HR0 : Hid (StrRow w a0 n f) := hr0
  have HR1 : Hid (SetRow w a1 L) := hr1
  have HG : Hid (MaxI w) := hG
  have HE : Hid (ErrsI w) := hE
  clear hr0 hr1 hG hE
  by_cases hA : 1048576 < a.size
  · go_enter Tryd.func6, Tryd.ntmps6
    go_wp2
    go_ret
    exact ⟨rfl, Below.refl _ _⟩
  have qA : decide ((1048576 : Int) < (a.size : Int)) = false := by rw [decide_eq_false_iff_not]; omega
  go_enter Tryd.func6, Tryd.ntmps6
  go_wp2_with fail
  refine (szStringS_any a0 n cap0 f 1048576 _ HR0.out hn0 (by decide) (by decide)).mono ?_
  rintro e w0 ⟨⟨r, rfl, hr⟩, rfl⟩
  rcases hr with hr | ⟨r0, r1, hl, hf⟩
  · go_wp2
    go_ret
    exact ⟨rfl, Below.refl _ _⟩
  have q : decide (r < 0) = false := by rw [decide_eq_false_iff_not]; omega
  have hl2 : n ≤ 1048576 := by omega
  have HF : Hid (∀ i, i < n → (f i).size ≤ 1048576) := fun i hi => by have := hf i hi; omega
  clear hf hl
  go_wp2_with fail
  refine (szSiteSetS_any a1 cap1 L r _ HR1.out hn1 r0 (by omega)).mono ?_
  rintro e w1 ⟨⟨r', rfl, hr'⟩, hb1⟩
  have B1 : Hid (Below w0.heap.size w0 w1) := hb1
  clear hb1 r0 r1
  rcases hr' with hr' | ⟨r0, r1, hL, hz⟩
  · go_wp2
    go_ret
    exact ⟨rfl, B1.out⟩
  have q' : decide (r' < 0) = false := by rw [decide_eq_false_iff_not]; omega
  have HZ : Hid (∀ i, i < L.length → szS (atS L i)) := hz
  clear hz r0 r1
  have KT0 : Hid (∀ W, Below w0.heap.size w0 W → Calls Tryd.prog 31 #[.slice a0 n cap0] W fun e w' => ∃ v, e = .returned v ∧ SliceS w' W.heap.size v n f ∧ Below W.heap.size W w') := fun W hb => toStringS_any a0 n cap0 f W (HR0.out.below hb) hl2
  have KT1 : Hid (∀ W, Below w0.heap.size w0 W → Calls Tryd.prog 32 #[.slice a1 L.length cap1] W fun e w' => ∃ v, e = .returned v ∧ SliceT w' W.heap.size v L ∧ Below W.heap.size W w') := fun W hb => toSiteSetS_any a1 cap1 L W (HR1.out.below hb) hL (fun i hi => (HZ.out i hi).2.1)
  have KS : Hid (∀ (v v' : Value) (B B' : Nat) (W : World), SliceS W B v n f → SliceT W B' v' L → Calls Tryd.prog 38 #[v, v', .string a] W fun e w' => ∃ u, e = .returned (.agg #[.string (setOfL n f L a).1, u]) ∧ SliceS w' W.heap.size u (setOfL n f L a).2.length (atL (setOfL n f L a).2) ∧ Below W.heap.size W w') := fun v v' B B' W x y => specSetOf_any v v' n B B' f L a W x hl2 HF.out y hL (fun j hj => (HZ.out j hj).2.1)
  have KI : Hid (∀ (v v' : Value) (B B' : Nat) (W : World), Below w0.heap.size w0 W → SliceS W B v n f → SliceT W B' v' L → Calls Tryd.prog 39 #[v, v', .string a] W fun e w' => ∃ u, e = .returned (.agg #[.string (setOfL n f L a).1, u]) ∧ SliceS w' W.heap.size u (setOfL n f L a).2.length (atL (setOfL n f L a).2) ∧ Below W.heap.size W w') := fun v v' B B' W hb x y => setOf_any v v' n B B' f L a W (HG.out.on hb) (HE.out.below hb) x hl2 HF.out y hL HZ.out (by omega)
  have KE1 : Hid (∀ (v v' : Value) (B B' : Nat) (W : World), SliceT W B v L → SliceT W B' v' L → Calls Tryd.prog 35 #[v, v'] W fun e w' => e = .returned (.bool true) ∧ Below W.heap.size W w') := fun v v' B B' W x y => eqSiteSetS_any v v' L B B' W x y hL (fun i hi => (HZ.out i hi).2.1)
  have KM1 : Hid (∀ (v : Value) (B E : Nat) (W : World), RowT W B E v L.length (fun j => (atS L j).2.length) → (0 < L.length → ∀ g, v.ownBlock = some g → g < E) → Calls Tryd.prog 42 #[v, .int .i64 ((1 + n : Nat) : Int)] W fun e w' => (∃ r : Nat, e = .returned (.int .i64 (r : Int))) ∧ MarkOn B E W w') := fun v B E W s h1 => markSets_on v L.length B E (1 + n) _ W s h1 hL (fun j hj => (HZ.out j hj).2.1) (by omega) (by omega)
  have hlen : (setOfL n f L a).2.length ≤ 4 := setOfL_len
  have KQ : Hid (∀ (u u' : Value) (B B' : Nat) (W : World), SliceS W B u (setOfL n f L a).2.length (atL (setOfL n f L a).2) → SliceS W B' u' (setOfL n f L a).2.length (atL (setOfL n f L a).2) → Calls Tryd.prog 40 #[.agg #[.string (setOfL n f L a).1, u], .agg #[.string (setOfL n f L a).1, u']] W fun e w' => e = .returned (.bool true) ∧ Below W.heap.size W w') := fun u u' B B' W x y => eqSiteSet_any _ u u' B B' W x y (by omega)
  clear HG HE HF HZ HR0 HR1
  generalize (setOfL n f L a).1 = p at *
  generalize (setOfL n f L a).2 = M at *
  go_wp2_with fail
  refine (KT0.out _ B1.out).mono ?_
  rintro e w2 ⟨v2, rfl, s2, hb2⟩
  have B2 : Hid (Below w0.heap.size w0 w2) := B1.out.trans (hb2.mono B1.out.size)
  have X2_2 : Hid (SliceS w2 w1.heap.size v2 n f) := s2
  clear s2 hb2
  go_wp2_with fail
  refine (KT1.out _ B2.out).mono ?_
  rintro e w3 ⟨v3, rfl, s3, hb3⟩
  have B3 : Hid (Below w0.heap.size w0 w3) := B2.out.trans (hb3.mono B2.out.size)
  have X2_3 : Hid (SliceS w3 w1.heap.size v2 n f) := X2_2.out.below hb3
  clear X2_2
  have X3_3 : Hid (SliceT w3 w2.heap.size v3 L) := s3
  clear s3 hb3
  go_wp2_with fail
  refine (KS.out _ _ _ _ _ X2_3.out X3_3.out).mono ?_
  rintro e w4 ⟨us, rfl, s4, hb4⟩
  have B4 : Hid (Below w0.heap.size w0 w4) := B3.out.trans (hb4.mono B3.out.size)
  clear X2_3 X3_3 KS
  have PS : Hid (0 < M.length → ∀ g, us.ownBlock = some g → w3.heap.size ≤ g ∧ g < w4.heap.size) := fun h g e => by
    obtain ⟨g1, e1, h1, h2, -⟩ := s4.place h
    rw [e1] at e
    have := Option.some.inj e
    omega
  have TS : Hid (SliceS w4 w3.heap.size us M.length (atL M)) := s4
  obtain ⟨usp, usc, rfl, -⟩ := id s4
  clear s4
  obtain ⟨w5, hW⟩ : ∃ W, W = w4.alloc (.cells #[.string p, .slice usp M.length usc] 47) := ⟨_, rfl⟩
  have HW : Hid (w5 = w4.alloc (.cells #[.string p, .slice usp M.length usc] 47)) := hW
  have hbx : Below w4.heap.size w4 w5 := by rw [hW]; exact (Below.refl _ _).alloc (Nat.le_refl _) _
  have AS_5 : Hid (Ans w5 w4.heap.size w3.heap.size p (.slice usp M.length usc) M.length (atL M)) := by show Ans _ _ _ _ _ _ _; rw [hW]; exact Ans.box _ TS.out
  have z5 : w4.heap.size < w5.heap.size := by rw [hW]; simp
  clear hW TS
  clear hb4
  have B5 : Hid (Below w0.heap.size w0 w5) := B4.out.trans (hbx.mono B4.out.size)
  clear hbx
  go_upto_region 11 with fail
  rw [← HW.out]
  clear HW
  go_wp2_with fail
  refine (KT0.out _ B5.out).mono ?_
  rintro e w6 ⟨v6, rfl, s6, hb6⟩
  have B6 : Hid (Below w0.heap.size w0 w6) := B5.out.trans (hb6.mono B5.out.size)
  have AS_6 : Hid (Ans w6 w4.heap.size w3.heap.size p (.slice usp M.length usc) M.length (atL M)) := AS_5.out.below hb6
  clear AS_5
  have z6 : w5.heap.size ≤ w6.heap.size := hb6.size
  have X0_6 : Hid (SliceS w6 w5.heap.size v6 n f) := s6
  have P0 : Hid (0 < n → ∀ g, v6.ownBlock = some g → g < w6.heap.size) := fun h g e => by
    obtain ⟨g1, e1, h1, h2, -⟩ := s6.place h
    rw [e1] at e
    have := Option.some.inj e
    omega
  clear s6 hb6
  go_wp2_with fail
  refine (KT1.out _ B6.out).mono ?_
  rintro e w7 ⟨v7, rfl, s7, hb7⟩
  have B7 : Hid (Below w0.heap.size w0 w7) := B6.out.trans (hb7.mono B6.out.size)
  have AS_7 : Hid (Ans w7 w4.heap.size w3.heap.size p (.slice usp M.length usc) M.length (atL M)) := AS_6.out.below hb7
  clear AS_6
  have X0_7 : Hid (SliceS w7 w5.heap.size v6 n f) := X0_6.out.below hb7
  clear X0_6
  have z7 : w6.heap.size ≤ w7.heap.size := hb7.size
  have X1_7 : Hid (SliceT w7 w6.heap.size v7 L) := s7
  have P1 : Hid (0 < L.length → ∀ g, v7.ownBlock = some g → g < w7.heap.size) := sliceT_lt s7
  have RX_7 : Hid (RowT w7 w6.heap.size w7.heap.size v7 L.length (fun j => (atS L j).2.length)) := rowT_of s7 (Nat.le_refl _)
  clear s7 hb7
  go_wp2_with fail
  refine (KI.out _ _ _ _ _ B7.out X0_7.out X1_7.out).mono ?_
  rintro e w8 ⟨ug, rfl, s8, hb8⟩
  have B8 : Hid (Below w0.heap.size w0 w8) := B7.out.trans (hb8.mono B7.out.size)
  have AS_8 : Hid (Ans w8 w4.heap.size w3.heap.size p (.slice usp M.length usc) M.length (atL M)) := AS_7.out.below hb8
  clear AS_7
  have X0_8 : Hid (SliceS w8 w5.heap.size v6 n f) := X0_7.out.below hb8
  clear X0_7
  have X1_8 : Hid (SliceT w8 w6.heap.size v7 L) := X1_7.out.below hb8
  clear X1_7
  have RX_8 : Hid (RowT w8 w6.heap.size w7.heap.size v7 L.length (fun j => (atS L j).2.length)) := RX_7.out.below hb8
  clear RX_7
  have z8 : w7.heap.size ≤ w8.heap.size := hb8.size
  clear hb8
  have PG : Hid (0 < M.length → ∀ g, ug.ownBlock = some g → w7.heap.size ≤ g ∧ g < w8.heap.size) := fun h g e => by
    obtain ⟨g1, e1, h1, h2, -⟩ := s8.place h
    rw [e1] at e
    have := Option.some.inj e
    omega
  have TG : Hid (SliceS w8 w7.heap.size ug M.length (atL M)) := s8
  obtain ⟨ugp, ugc, rfl, -⟩ := id s8
  clear s8
  obtain ⟨w9, hW⟩ : ∃ W, W = w8.alloc (.cells #[.string p, .slice ugp M.length ugc] 47) := ⟨_, rfl⟩
  have HW : Hid (w9 = w8.alloc (.cells #[.string p, .slice ugp M.length ugc] 47)) := hW
  have hbx : Below w8.heap.size w8 w9 := by rw [hW]; exact (Below.refl _ _).alloc (Nat.le_refl _) _
  have AG_9 : Hid (Ans w9 w8.heap.size w7.heap.size p (.slice ugp M.length ugc) M.length (atL M)) := by show Ans _ _ _ _ _ _ _; rw [hW]; exact Ans.box _ TG.out
  have z9 : w8.heap.size < w9.heap.size := by rw [hW]; simp
  clear hW TG
  have B9 : Hid (Below w0.heap.size w0 w9) := B8.out.trans (hbx.mono B8.out.size)
  have AS_9 : Hid (Ans w9 w4.heap.size w3.heap.size p (.slice usp M.length usc) M.length (atL M)) := AS_8.out.below hbx
  clear AS_8
  have X0_9 : Hid (SliceS w9 w5.heap.size v6 n f) := X0_8.out.below hbx
  clear X0_8
  have X1_9 : Hid (SliceT w9 w6.heap.size v7 L) := X1_8.out.below hbx
  clear X1_8
  have RX_9 : Hid (RowT w9 w6.heap.size w7.heap.size v7 L.length (fun j => (atS L j).2.length)) := RX_8.out.below hbx
  clear RX_8
  clear hbx
  go_upto_region 14 with fail
  rw [← HW.out]
  clear HW
  have cAG0 := AG_9.out.2.1
  have cAG1 := AG_9.out.2.2.1
  have cAS0 := AS_9.out.2.1
  have cAS1 := AS_9.out.2.2.1
  go_wp2_with fail
  refine (KQ.out _ _ _ _ _ AG_9.out.2.2.2 AS_9.out.2.2.2).mono ?_
  rintro e w10 ⟨rfl, hb10⟩
  clear cAG0 cAG1 cAS0 cAS1
  have B10 : Hid (Below w0.heap.size w0 w10) := B9.out.trans (hb10.mono B9.out.size)
  have AS_10 : Hid (Ans w10 w4.heap.size w3.heap.size p (.slice usp M.length usc) M.length (atL M)) := AS_9.out.below hb10
  clear AS_9
  have X0_10 : Hid (SliceS w10 w5.heap.size v6 n f) := X0_9.out.below hb10
  clear X0_9
  have X1_10 : Hid (SliceT w10 w6.heap.size v7 L) := X1_9.out.below hb10
  clear X1_9
  have RX_10 : Hid (RowT w10 w6.heap.size w7.heap.size v7 L.length (fun j => (atS L j).2.length)) := RX_9.out.below hb10
  clear RX_9
  have AG_10 : Hid (Ans w10 w8.heap.size w7.heap.size p (.slice ugp M.length ugc) M.length (atL M)) := AG_9.out.below hb10
  clear AG_9
  clear hb10
  go_wp2_with fail
  refine (KT0.out _ B10.out).mono ?_
  rintro e w11 ⟨v11, rfl, s11, hb11⟩
  have B11 : Hid (Below w0.heap.size w0 w11) := B10.out.trans (hb11.mono B10.out.size)
  have AS_11 : Hid (Ans w11 w4.heap.size w3.heap.size p (.slice usp M.length usc) M.length (atL M)) := AS_10.out.below hb11
  clear AS_10
  have X0_11 : Hid (SliceS w11 w5.heap.size v6 n f) := X0_10.out.below hb11
  clear X0_10
  have X1_11 : Hid (SliceT w11 w6.heap.size v7 L) := X1_10.out.below hb11
  clear X1_10
  have RX_11 : Hid (RowT w11 w6.heap.size w7.heap.size v7 L.length (fun j => (atS L j).2.length)) := RX_10.out.below hb11
  clear RX_10
  have AG_11 : Hid (Ans w11 w8.heap.size w7.heap.size p (.slice ugp M.length ugc) M.length (atL M)) := AG_10.out.below hb11
  clear AG_10
  clear hb11
  go_wp2_with fail
  refine (eqStringS_any v6 v11 n _ _ f _ X0_11.out s11 (by omega)).mono ?_
  rintro e w12 ⟨rfl, hb12⟩
  have B12 : Hid (Below w0.heap.size w0 w12) := B11.out.trans (hb12.mono B11.out.size)
  have AS_12 : Hid (Ans w12 w4.heap.size w3.heap.size p (.slice usp M.length usc) M.length (atL M)) := AS_11.out.below hb12
  clear AS_11
  have X0_12 : Hid (SliceS w12 w5.heap.size v6 n f) := X0_11.out.below hb12
  clear X0_11
  have X1_12 : Hid (SliceT w12 w6.heap.size v7 L) := X1_11.out.below hb12
  clear X1_11
  have RX_12 : Hid (RowT w12 w6.heap.size w7.heap.size v7 L.length (fun j => (atS L j).2.length)) := RX_11.out.below hb12
  clear RX_11
  have AG_12 : Hid (Ans w12 w8.heap.size w7.heap.size p (.slice ugp M.length ugc) M.length (atL M)) := AG_11.out.below hb12
  clear AG_11
  clear hb12 s11
  go_wp2_with fail
  refine (KT1.out _ B12.out).mono ?_
  rintro e w13 ⟨v13, rfl, s13, hb13⟩
  have B13 : Hid (Below w0.heap.size w0 w13) := B12.out.trans (hb13.mono B12.out.size)
  have AS_13 : Hid (Ans w13 w4.heap.size w3.heap.size p (.slice usp M.length usc) M.length (atL M)) := AS_12.out.below hb13
  clear AS_12
  have X0_13 : Hid (SliceS w13 w5.heap.size v6 n f) := X0_12.out.below hb13
  clear X0_12
  have X1_13 : Hid (SliceT w13 w6.heap.size v7 L) := X1_12.out.below hb13
  clear X1_12
  have RX_13 : Hid (RowT w13 w6.heap.size w7.heap.size v7 L.length (fun j => (atS L j).2.length)) := RX_12.out.below hb13
  clear RX_12
  have AG_13 : Hid (Ans w13 w8.heap.size w7.heap.size p (.slice ugp M.length ugc) M.length (atL M)) := AG_12.out.below hb13
  clear AG_12
  clear hb13
  go_wp2_with fail
  refine (KE1.out _ _ _ _ _ X1_13.out s13).mono ?_
  rintro e w14 ⟨rfl, hb14⟩
  have B14 : Hid (Below w0.heap.size w0 w14) := B13.out.trans (hb14.mono B13.out.size)
  clear X1_13
  have AS_14 : Hid (Ans w14 w4.heap.size w3.heap.size p (.slice usp M.length usc) M.length (atL M)) := AS_13.out.below hb14
  clear AS_13
  have X0_14 : Hid (SliceS w14 w5.heap.size v6 n f) := X0_13.out.below hb14
  clear X0_13
  have RX_14 : Hid (RowT w14 w6.heap.size w7.heap.size v7 L.length (fun j => (atS L j).2.length)) := RX_13.out.below hb14
  clear RX_13
  have AG_14 : Hid (Ans w14 w8.heap.size w7.heap.size p (.slice ugp M.length ugc) M.length (atL M)) := AG_13.out.below hb14
  clear AG_13
  clear hb14 s13 KE1
  go_wp2_with fail
  refine (markStr_on v6 n w5.heap.size w7.heap.size 1 f w14 X0_14.out (fun h g e => by have := P0.out h g e; omega) hl2 (by decide) (by decide)).mono ?_
  rintro e w15 ⟨rfl, m15⟩
  clear X0_14
  have AS_15 : Hid (Ans w15 w4.heap.size w3.heap.size p (.slice usp M.length usc) M.length (atL M)) := AS_14.out.mark m15 (.inl (by omega)) (fun h g e => .inl (by have := PS.out h g e; omega))
  clear AS_14
  have AG_15 : Hid (Ans w15 w8.heap.size w7.heap.size p (.slice ugp M.length ugc) M.length (atL M)) := AG_14.out.mark m15 (.inr (by omega)) (fun h g e => .inr (by have := PG.out h g e; omega))
  clear AG_14
  have RX_15 : Hid (RowT w15 w6.heap.size w7.heap.size v7 L.length (fun j => (atS L j).2.length)) := RX_14.out.within m15
  clear RX_14
  have B15 : Hid (Below w0.heap.size w0 w15) := B14.out.trans (m15.low (by have := B5.out.size; omega) (by have := B14.out.size; omega))
  clear m15
  go_wp2_with fail
  refine (KM1.out v7 w6.heap.size w7.heap.size w15 RX_15.out P1.out).mono ?_
  rintro e w16 ⟨⟨rr, rfl⟩, m16⟩
  have AS_16 : Hid (Ans w16 w4.heap.size w3.heap.size p (.slice usp M.length usc) M.length (atL M)) := AS_15.out.mark m16 (.inl (by omega)) (fun h g e => .inl (by have := PS.out h g e; omega))
  clear AS_15
  have AG_16 : Hid (Ans w16 w8.heap.size w7.heap.size p (.slice ugp M.length ugc) M.length (atL M)) := AG_15.out.mark m16 (.inr (by omega)) (fun h g e => .inr (by have := PG.out h g e; omega))
  clear AG_15
  have RX_16 : Hid (RowT w16 w6.heap.size w7.heap.size v7 L.length (fun j => (atS L j).2.length)) := RX_15.out.within m16
  clear RX_15
  have B16 : Hid (Below w0.heap.size w0 w16) := B15.out.trans (m16.low (by have := B5.out.size; omega) (by have := B15.out.size; omega))
  clear m16
  clear RX_16
  have qr : decide (((rr : Nat) : Int) < 0) = false := by rw [decide_eq_false_iff_not]; omega
  have cAG0 := AG_16.out.2.1
  have cAG1 := AG_16.out.2.2.1
  have cAS0 := AS_16.out.2.1
  have cAS1 := AS_16.out.2.2.1
  go_wp2_with fail
  refine (KQ.out _ _ _ _ _ AG_16.out.2.2.2 AS_16.out.2.2.2).mono ?_
  rintro e w17 ⟨rfl, hb17⟩
  clear cAG0 cAG1 cAS0 cAS1
  have B17 : Hid (Below w0.heap.size w0 w17) := B16.out.trans (hb17.mono B16.out.size)
  have AS_17 : Hid (Ans w17 w4.heap.size w3.heap.size p (.slice usp M.length usc) M.length (atL M)) := AS_16.out.below hb17
  clear AS_16
  have AG_17 : Hid (Ans w17 w8.heap.size w7.heap.size p (.slice ugp M.length ugc) M.length (atL M)) := AG_16.out.below hb17
  clear AG_16
  clear hb17 qr
  obtain ⟨G, hG1, hG2⟩ : ∃ G, (0 < M.length → (Value.slice ugp M.length ugc).ownBlock = some G) ∧ (w7.heap.size ≤ G ∧ (G < w8.heap.size ∨ w17.heap.size ≤ G)) := by
    by_cases h0 : 0 < M.length
    · obtain ⟨g, e, h1, h2, -⟩ := AG_17.out.2.2.2.place h0
      have h3 := PG.out h0 g e
      exact ⟨g, fun _ => e, h3.1, .inl h3.2⟩
    · exact ⟨w17.heap.size, fun h => absurd h h0, by have := AG_17.out.1; omega, .inr (Nat.le_refl _)⟩
  have hG3 : w8.heap.size < w17.heap.size := AG_17.out.1
  have cAG0 := AG_17.out.2.1
  have cAG1 := AG_17.out.2.2.1
  go_wp2_with fail
  refine (markSet_one p _ M.length w7.heap.size G (atL M) w17 AG_17.out.2.2.2 hG1 (by omega)).mono ?_
  rintro e w18 ⟨rfl, s18, m18⟩
  clear cAG0 cAG1
  have AM_18 : Hid (Ans w18 w8.heap.size w7.heap.size p (.slice ugp M.length ugc) M.length (fun j => markT (1 + j))) := ⟨Nat.lt_of_lt_of_le AG_17.out.1 m18.size, (m18.block _ AG_17.out.1 (by omega) 0).trans AG_17.out.2.1, (m18.block _ AG_17.out.1 (by omega) 1).trans AG_17.out.2.2.1, s18⟩
  clear AG_17 s18
  have AS_18 : Hid (Ans w18 w4.heap.size w3.heap.size p (.slice usp M.length usc) M.length (atL M)) := AS_17.out.mark m18 (.inl (by omega)) (fun h g e => .inl (by have := PS.out h g e; omega))
  clear AS_17
  have B18 : Hid (Below w0.heap.size w0 w18) := B17.out.trans (m18.low (by have := B7.out.size; omega) (by have := B17.out.size; omega))
  clear m18 hG1 hG2 hG3
  have KH : Hid (∀ W, SliceS W w7.heap.size (.slice ugp M.length ugc) M.length (fun j => markT (1 + j)) → Calls Tryd.prog 44 #[.agg #[.string p, .slice ugp M.length ugc], .int .i64 1] W fun e w' => e = .returned (.int .i64 ((1 + M.length : Nat) : Int)) ∧ Below W.heap.size W w') := fun W h => heldSet_one p _ M.length _ W h (by omega)
  have qm : decide ((((1 + M.length : Nat) : Int)) < 0) = false := by rw [decide_eq_false_iff_not]; omega
  generalize ((1 + M.length : Nat) : Int) = mm at *
  have cAM0 := AM_18.out.2.1
  have cAM1 := AM_18.out.2.2.1
  go_wp2_with fail
  refine (KH.out _ AM_18.out.2.2.2).mono ?_
  rintro e w19 ⟨rfl, hb19⟩
  clear cAM0 cAM1
  have B19 : Hid (Below w0.heap.size w0 w19) := B18.out.trans (hb19.mono B18.out.size)
  have AM_19 : Hid (Ans w19 w8.heap.size w7.heap.size p (.slice ugp M.length ugc) M.length (fun j => markT (1 + j))) := AM_18.out.below hb19
  clear AM_18
  have AS_19 : Hid (Ans w19 w4.heap.size w3.heap.size p (.slice usp M.length usc) M.length (atL M)) := AS_18.out.below hb19
  clear AS_18
  clear hb19
  go_wp2_with fail
  refine (KT0.out _ B19.out).mono ?_
  rintro e w20 ⟨v20, rfl, s20, hb20⟩
  have B20 : Hid (Below w0.heap.size w0 w20) := B19.out.trans (hb20.mono B19.out.size)
  have AM_20 : Hid (Ans w20 w8.heap.size w7.heap.size p (.slice ugp M.length ugc) M.length (fun j => markT (1 + j))) := AM_19.out.below hb20
  clear AM_19
  have AS_20 : Hid (Ans w20 w4.heap.size w3.heap.size p (.slice usp M.length usc) M.length (atL M)) := AS_19.out.below hb20
  clear AS_19
  have Y0 : Hid (SliceS w20 w19.heap.size v20 n f) := s20
  clear hb20 s20
  go_wp2_with fail
  refine (KT1.out _ B20.out).mono ?_
  rintro e w21 ⟨v21, rfl, s21, hb21⟩
  have B21 : Hid (Below w0.heap.size w0 w21) := B20.out.trans (hb21.mono B20.out.size)
  have AM_21 : Hid (Ans w21 w8.heap.size w7.heap.size p (.slice ugp M.length ugc) M.length (fun j => markT (1 + j))) := AM_20.out.below hb21
  clear AM_20
  have AS_21 : Hid (Ans w21 w4.heap.size w3.heap.size p (.slice usp M.length usc) M.length (atL M)) := AS_20.out.below hb21
  clear AS_20
  have Y1 : Hid (SliceT w21 w20.heap.size v21 L) := s21
  have Y2 : Hid (SliceS w21 w19.heap.size v20 n f) := Y0.out.below hb21
  clear hb21 s21 Y0
  go_wp2_with fail
  refine (KI.out _ _ _ _ _ B21.out Y2.out Y1.out).mono ?_
  rintro e w22 ⟨uh, rfl, s22, hb22⟩
  have B22 : Hid (Below w0.heap.size w0 w22) := B21.out.trans (hb22.mono B21.out.size)
  have AM_22 : Hid (Ans w22 w8.heap.size w7.heap.size p (.slice ugp M.length ugc) M.length (fun j => markT (1 + j))) := AM_21.out.below hb22
  clear AM_21
  have AS_22 : Hid (Ans w22 w4.heap.size w3.heap.size p (.slice usp M.length usc) M.length (atL M)) := AS_21.out.below hb22
  clear AS_21
  clear hb22 Y1 Y2
  have PH : Hid (0 < M.length → ∀ g, uh.ownBlock = some g → w21.heap.size ≤ g ∧ g < w22.heap.size) := fun h g e => by
    obtain ⟨g1, e1, h1, h2, -⟩ := s22.place h
    rw [e1] at e
    have := Option.some.inj e
    omega
  have TH : Hid (SliceS w22 w21.heap.size uh M.length (atL M)) := s22
  obtain ⟨uhp, uhc, rfl, -⟩ := id s22
  clear s22
  obtain ⟨w23, hW⟩ : ∃ W, W = w22.alloc (.cells #[.string p, .slice uhp M.length uhc] 47) := ⟨_, rfl⟩
  have HW : Hid (w23 = w22.alloc (.cells #[.string p, .slice uhp M.length uhc] 47)) := hW
  have hbx : Below w22.heap.size w22 w23 := by rw [hW]; exact (Below.refl _ _).alloc (Nat.le_refl _) _
  have AH_23 : Hid (Ans w23 w22.heap.size w21.heap.size p (.slice uhp M.length uhc) M.length (atL M)) := by show Ans _ _ _ _ _ _ _; rw [hW]; exact Ans.box _ TH.out
  have z23 : w22.heap.size < w23.heap.size := by rw [hW]; simp
  clear hW TH
  have B23 : Hid (Below w0.heap.size w0 w23) := B22.out.trans (hbx.mono B22.out.size)
  have AM_23 : Hid (Ans w23 w8.heap.size w7.heap.size p (.slice ugp M.length ugc) M.length (fun j => markT (1 + j))) := AM_22.out.below hbx
  clear AM_22
  have AS_23 : Hid (Ans w23 w4.heap.size w3.heap.size p (.slice usp M.length usc) M.length (atL M)) := AS_22.out.below hbx
  clear AS_22
  clear hbx
  go_upto_region 34 with fail
  rw [← HW.out]
  clear HW
  have cAH0 := AH_23.out.2.1
  have cAH1 := AH_23.out.2.2.1
  have cAS0 := AS_23.out.2.1
  have cAS1 := AS_23.out.2.2.1
  go_wp2_with fail
  refine (KQ.out _ _ _ _ _ AH_23.out.2.2.2 AS_23.out.2.2.2).mono ?_
  rintro e w24 ⟨rfl, hb24⟩
  clear cAH0 cAH1 cAS0 cAS1
  have B24 : Hid (Below w0.heap.size w0 w24) := B23.out.trans (hb24.mono B23.out.size)
  clear AH_23
  clear AS_23
  have AM_24 : Hid (Ans w24 w8.heap.size w7.heap.size p (.slice ugp M.length ugc) M.length (fun j => markT (1 + j))) := AM_23.out.below hb24
  clear AM_23
  clear hb24
  have cAM0 := AM_24.out.2.1
  have cAM1 := AM_24.out.2.2.1
  go_wp2_with fail
  refine (KH.out _ AM_24.out.2.2.2).mono ?_
  rintro e w25 ⟨rfl, hb25⟩
  go_wp2
  go_ret
  exact ⟨rfl, B24.out.trans (hb25.mono B24.out.size)⟩
end Go.Proofs.YtfoekelhcmlagaaDoor

/- The lifting of a law's walk to a row that lists package-level variables, the world's shape kept; what the shape and the list give a walk. -/
namespace Go.Proofs.YtfoekelhcmlagaaDoor
open Go.RowKit

theorem Ld.own : ownKnob Tryd.prog.godebug = none := by kernel_rfl
theorem Ld.laidOut : laidOutB Tryd.prog = true := by kernel_rfl
set_option maxRecDepth 10000 in
theorem lift_laid {H : Type} {enc : TypeId × Value → H} {os : Os} {f : FuncId} {fn : Func} {s : ChangeSpec} {X : World → Prop} (hX : ∀ (w w' : World), w.heap = w'.heap → X w → X w')
    (started : os.Started) (noInit : Tryd.prog.inits.idxOf? f = none) (hfn : Tryd.prog.funcs[f]? = some fn)
    (start : ∃ (w : World) (tape : Tape) (i : Input), w.os = os ∧ (w.forCall tape i).Shaped Tryd.prog ∧ i.vars = [] ∧ Input.okWide Tryd.prog (w.forCall tape i) .any w.heap.size f i ∧
      ((s.pre enc Tryd.prog fn [] false (w.forCall tape i).memory i.args ∧ X (w.forCall tape i).memory) ∧ sizedMet enc Tryd.prog fn (OpenSpec.ofChange s) false (w.forCall tape i).memory i.args) ∧ Assume.holds {} Tryd.prog (lone (Frame.enter Tryd.prog f i.args .normal) [] (w.forCall tape i)))
    (walk : ∀ (W : World) (base : Nat) (args : Array Value) (ds gs : List (DataW H)) (before : List MemPlace),
      (∀ (j : Nat) t v, fn.params[j]? = some t → args[j]? = some v → Value.okWide Tryd.prog W .any base t v) →
      DataW.Whole enc Tryd.prog fn.params.toList s.vars false W args.toList ds gs before → X W → W.ShapedOpen Tryd.prog →
      Calls Tryd.prog f args W fun e W' => ∃ v, e = .returned v ∧ s.post enc Tryd.prog fn false true false false W args v W') :
    ReturnsInHanded {} Tryd.checked os f .any (fun w args => (s.pre enc Tryd.prog fn [] false w args ∧ X w) ∧ sizedMet enc Tryd.prog fn (OpenSpec.ofChange s) false w args) (s.post enc Tryd.prog fn false true false false) := by
  refine returnsInHanded_of_calls (C := Tryd.checked) Ld.own started noInit start ?_
  intro w tape i _ hsh _ hok hpre _
  obtain ⟨_, _, _, fn2, hfn2, _, _, _, _, hval⟩ := hok
  obtain rfl : fn2 = fn := Option.some.inj (hfn2.symm.trans hfn)
  obtain ⟨⟨⟨ds, gs, before, hw, _⟩, hx⟩, _⟩ := hpre
  have hw2 := DataW.Whole.of_heap (w' := w.forCall tape i) (by rfl) hw
  refine (walk (w.forCall tape i) w.heap.size i.args ds gs before hval hw2 (hX _ _ (by rfl) hx) hsh).mono fun e W' ⟨v, he, hp⟩ => ?_
  subst he
  exact ChangeSpec.post_blind hp
set_option maxRecDepth 10000 in
theorem maxI_of_shape {W : World} (h : W.ShapedOpen Tryd.prog) : MaxI W := Tryd.lays146.s1_3 W h
end Go.Proofs.YtfoekelhcmlagaaDoor

/- What a row's list of package-level variables gives a walk: the program's words of kinds, the library's two errors; a listed variable that reads behind the call as before it. -/
namespace Go.Proofs.YtfoekelhcmlagaaDoor
open Go.RowKit Go.ChangeShapes

theorem plain_of {l : List (String × DataW Unit)} {W : World} (hh : (l.all fun x => x.2.handleName?.isNone) = true) (h : laidMetH Tryd.prog l W) : laidMet Tryd.prog l W := by
  rw [MakeChecks.laidMetH_plain _ _ _ hh] at h; exact h
/-- a listed variable of an interface type holds a value of some type -/
theorem iface_of_met {P : Program} {W : World} {n nm : String} {d : DataW Unit} {r : List (String × DataW Unit)} {g : Nat} {ti : TypeId} {ms : Array (String × TypeId)} (h : laidMet P ((n, .iface nm d) :: r) W)
    (hg : P.globalNamed n = some g) (ht : (P.globals[g]?).map (·.type) = some ti) (hi : P.underlying ti = some (.interface ms)) : ∃ u v, W.cell? ⟨g, 0, none⟩ = some (.iface u v) := by
  obtain ⟨ps, ⟨g0, t0, cs0, f0, p0, q0, hg0, ht0, hv0, hd0, _, _⟩, _, _⟩ := h
  obtain rfl := Option.some.inj (hg.symm.trans hg0)
  obtain rfl := Option.some.inj (ht.symm.trans ht0)
  obtain ⟨_, u, v, hc, _, _⟩ := iface_of_trod hi hd0
  refine ⟨u, v, ?_⟩
  rw [World.var?_cell hg0 hv0 0, ← Array.getElem?_toList, hc]
  rfl
/-- one listed variable reads on -/
theorem vars_on {H : Type} {enc : TypeId × Value → H} {n : String} {g : Nat} {t : TypeId} {cs : Array Value} {fuel : Nat} {d : DataW H} {p : List MemPlace} {W W' : World}
    (hr : Tryd.prog.readableRec t = true) (hrow : t < Tryd.prog.types.size) (hg : Tryd.prog.globalNamed n = some g) (ht : (Tryd.prog.globals[g]?).map (·.type) = some t) (hv : W.var? Tryd.prog n = some cs) (hlt : g < W.heap.size)
    (hd : DataW.trod enc Tryd.prog W 0 (fun _ => true) true fuel t cs.toList = some (d, p)) (hb : Below W.heap.size W W') :
    DataW.TrodVars enc Tryd.prog W' (fun b => decide (b < W.heap.size)) [n] [d] (MemPlace.row ⟨g, 0, none⟩ cs.size ++ p) := by
  have k : DataW.Trod enc Tryd.prog W 0 (fun _ => true) true t (.agg cs) d p := ⟨fuel, hd⟩
  obtain ⟨f', hd'⟩ := Below.trod Ld.laidOut hr hrow k hb (DataW.trod_lt fuel _ _ _ hd)
  exact trodVars_mk1 hg ht (var?_below hb hg hlt hv) hd'
theorem var_lt {P : Program} {W : World} {n : String} {g : Nat} {cs : Array Value} (hg : P.globalNamed n = some g) (hv : W.var? P n = some cs) : g < W.heap.size := by
  unfold World.var? at hv
  simp only [hg, Option.bind_some] at hv
  by_cases h : g < W.heap.size
  · exact h
  · rw [Array.getElem?_eq_none (by omega)] at hv; simp at hv
end Go.Proofs.YtfoekelhcmlagaaDoor

/- What a row's list of the program's five errors gives a walk; listed variables that read behind the call as before it. -/
namespace Go.Proofs.YtfoekelhcmlagaaDoor
open Go.RowKit Go.ChangeShapes

theorem varsAll_on {H : Type} {enc : TypeId × Value → H} {W W' : World} (hb : Below W.heap.size W W') : ∀ {ns : List String} {ds : List (DataW H)} {ps : List MemPlace}, (∀ n ∈ ns, ∀ g t, Tryd.prog.globalNamed n = some g → (Tryd.prog.globals[g]?).map (·.type) = some t → Tryd.prog.readableRec t = true ∧ t < Tryd.prog.types.size) →
    DataW.TrodVars enc Tryd.prog W (fun _ => true) ns ds ps → DataW.TrodVars enc Tryd.prog W' (fun b => decide (b < W.heap.size)) ns ds ps
  | [], [], _, _, h => h
  | n :: ns, d :: ds, ps, hr, ⟨g, t, cs, fuel, p, q, h1, h2, h3, h4, hs, e⟩ => by
    obtain ⟨r1, r2⟩ := hr n (List.mem_cons_self ..) g t h1 h2
    have k : DataW.Trod enc Tryd.prog W 0 (fun _ => true) true t (.agg cs) d p := ⟨fuel, h4⟩
    obtain ⟨f', hd'⟩ := Below.trod Ld.laidOut r1 r2 k hb (DataW.trod_lt fuel _ _ _ h4)
    exact ⟨g, t, cs, f', p, q, h1, h2, var?_below hb h1 (var_lt h1 h3) h3, hd', varsAll_on hb (fun n hn => hr n (List.mem_cons_of_mem _ hn)) hs, e⟩
theorem vars5 {H : Type} {enc : TypeId × Value → H} {P : Program} {W : World} {sp : Nat → Bool} {n1 n2 n3 n4 n5 : String} {gs : List (DataW H)} {ps : List MemPlace} (h : DataW.TrodVars enc P W sp [n1, n2, n3, n4, n5] gs ps) : ∃ d1 d2 d3 d4 d5, gs = [d1, d2, d3, d4, d5] := by
  match gs, h with
  | [], h => exact h.elim
  | d1 :: r1, ⟨_, _, _, _, _, _, _, _, _, _, h, _⟩ =>
  match r1, h with
  | [], h => exact h.elim
  | d2 :: r2, ⟨_, _, _, _, _, _, _, _, _, _, h, _⟩ =>
  match r2, h with
  | [], h => exact h.elim
  | d3 :: r3, ⟨_, _, _, _, _, _, _, _, _, _, h, _⟩ =>
  match r3, h with
  | [], h => exact h.elim
  | d4 :: r4, ⟨_, _, _, _, _, _, _, _, _, _, h, _⟩ =>
  match r4, h with
  | [], h => exact h.elim
  | d5 :: r5, ⟨_, _, _, _, _, _, _, _, _, _, h, _⟩ =>
  match r5, h with
  | [], _ => exact ⟨d1, d2, d3, d4, d5, rfl⟩
  | _ :: _, h => exact h.elim
theorem errNames_read : ∀ n ∈ ["loop.example/g00551/impl.errRules", "loop.example/g00551/impl.errOrder", "loop.example/g00551/impl.errMany", "loop.example/g00551/impl.errWrong", "loop.example/g00551/impl.errTaken"], ∀ g t, Tryd.prog.globalNamed n = some g → (Tryd.prog.globals[g]?).map (·.type) = some t → Tryd.prog.readableRec t = true ∧ t < Tryd.prog.types.size := by
  have key : ∀ n g0, Tryd.prog.globalNamed n = some g0 → (Tryd.prog.globals[g0]?).map (·.type) = some 109 → ∀ g t, Tryd.prog.globalNamed n = some g → (Tryd.prog.globals[g]?).map (·.type) = some t → Tryd.prog.readableRec t = true ∧ t < Tryd.prog.types.size := fun n g0 h1 h2 g t h3 h4 => by
    obtain rfl := Option.some.inj (h1.symm.trans h3)
    obtain rfl := Option.some.inj (h2.symm.trans h4)
    exact ⟨by kernel_rfl, of_decide_eq_true (by kernel_rfl)⟩
  intro n hn
  simp only [List.mem_cons, List.not_mem_nil, or_false] at hn
  rcases hn with rfl | rfl | rfl | rfl | rfl
  · exact key _ 0 (by kernel_rfl) (by kernel_rfl)
  · exact key _ 1 (by kernel_rfl) (by kernel_rfl)
  · exact key _ 2 (by kernel_rfl) (by kernel_rfl)
  · exact key _ 3 (by kernel_rfl) (by kernel_rfl)
  · exact key _ 5 (by kernel_rfl) (by kernel_rfl)
end Go.Proofs.YtfoekelhcmlagaaDoor
