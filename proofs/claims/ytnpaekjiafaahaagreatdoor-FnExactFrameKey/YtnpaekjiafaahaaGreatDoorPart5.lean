/- 21 of this claim's texts, one behind the other. -/
import Derived.Test.YtnpaekjiafaahaaGreatDoorPart2
import Derived.Test.YtnpaekjiafaahaaGreatDoorPart4
import Derived.Test.YtnpaekjiafaahaaGreatDoorPart1
import Derived.Lib.Split
import Derived.Test.YtnpaekjiafaahaaGreatDoorPart3
import Derived.WalkKit
import Derived.WalkSpells
import Derived.WalkLawsBesides
import Derived.Lib.IndexAny
import Derived.Laws.ResultCell
import Derived.Deep.LoopGhost
import Derived.Maps.AppendAt
/- The walks of the specification's l09Top and FrameTop. Written by laws9.py. -/
namespace Go.Proofs.YtnpaekjiafaahaaGreatDoor
open Go.RowKit

/-- the top of a frame -/
def topFr (L : List Fr) (id : Int) : Fr := (wayF L id).getLastD frNone
def topF (L : List Fr) (id : Int) : Int := if (framesB L && hereF L id) = true then (topFr L id).id else 0
theorem topF_right {L : List Fr} (h : framesB L = true) (id : Int) : topF L id = (topFr L id).id := by
  unfold topF
  cases hh : hereF L id with
  | true => rw [h]; rfl
  | false => rw [Bool.and_false, if_neg (by decide)]; unfold topFr; rw [wayF_none hh]; rfl
theorem parent_here {L : List Fr} (h : framesB L = true) {k : Nat} (hk : k < L.length) (hp : (atF L k).pa ≠ 0) : ∃ j, j < k ∧ whF L (atF L k).pa = (j : Int) ∧ (atF L j).id = (atF L k).pa := by
  have hi := ids_of h
  have h1 := (framesB_parts h).2 k hk
  unfold okF at h1
  simp only [Bool.and_eq_true] at h1
  have h2 := h1.2
  unfold holdF at h2
  rw [Bool.or_eq_true, beq_iff_eq, decide_eq_true_eq] at h2
  rcases h2 with h2 | h2
  · exact absurd h2 hp
  · rcases whF_cases (L.take k) (atF L k).pa with ⟨j, hj, -, e1, -⟩ | ⟨e, -⟩
    · rw [List.length_take] at hj
      rw [atF_take (by omega) (by omega)] at e1
      exact ⟨j, by omega, by rw [← e1]; exact (getF_at hi (by omega)).1, e1⟩
    · omega
theorem here_at {L : List Fr} (h : framesB L = true) {k : Nat} (hk : k < L.length) : hereF L (atF L k).id = true ∧ getF L (atF L k).id = atF L k :=
  ⟨(hereF_iff _ _).2 ⟨k, hk, rfl⟩, (getF_at (ids_of h) hk).2⟩
theorem topFr_top {L : List Fr} (h : framesB L = true) {k : Nat} (hk : k < L.length) (hp : (atF L k).pa = 0) : topFr L (atF L k).id = atF L k := by
  obtain ⟨h1, h2⟩ := here_at h hk
  have h0 : hereF L 0 = false := by
    rw [Bool.eq_false_iff]
    intro h0
    obtain ⟨j, hj, e⟩ := (hereF_iff _ _).1 h0
    have := ((ids_of h) j hj).1
    omega
  unfold topFr
  rw [wayF_here h h1, h2, hp, wayF_none h0]
  rfl
theorem topFr_in {L : List Fr} (h : framesB L = true) {k j : Nat} (hk : k < L.length) (hj : j < L.length) (e : (atF L j).id = (atF L k).pa) : topFr L (atF L k).id = topFr L (atF L j).id := by
  obtain ⟨h1, h2⟩ := here_at h hk
  obtain ⟨h3, h4⟩ := here_at h hj
  unfold topFr
  rw [wayF_here h h1, h2, ← e, wayF_here h h3]
  simp [List.getLastD]
set_option maxRecDepth 10000 in
set_option maxHeartbeats 4000000 in
theorem specTop9_any (v : Value) (L : List Fr) (B : Nat) (id : Int) (w : World) (hs : SliceF w B v L) (hn : L.length ≤ 1048576) (hL : framesB L = true) (hh : hereF L id = true) :
    Calls Tryz.prog 74 #[v, .int .i64 id] w fun e w' => (∃ k : Nat, e = .returned (.int .i64 (k : Int)) ∧ k < L.length ∧ atF L k = topFr L id) ∧ w' = w := by
  have KA : Hid (∀ i, Calls Tryz.prog 63 #[v, .int .i64 i] w fun e w' => e = .returned (.int .i64 (whF L i)) ∧ w' = w) := fun i => specAt_any v L B i w hs hn
  have HL : Hid (framesB L = true) := hL
  obtain ⟨k0, hk0, ew, eg, ei⟩ := here_wh hh
  have HI : Hid (topFr L id = topFr L (atF L k0).id) := by show _ = _; rw [ei]
  obtain ⟨⟨p, cap, rfl, hg⟩, -⟩ := hs
  obtain ⟨g, rfl, -, hgw, hc⟩ := hg (by omega)
  have HC : Hid (∀ j, j < L.length → w.cell? ⟨g, j * 9 + 1, none⟩ = some (.int .i64 (atF L j).pa)) := fun j hj => (hc j hj 1 (by omega)).1
  clear hg hc hL hgw eg ei hh
  go_enter Tryz.func74, Tryz.ntmps74
  go_wp2_with fail
  refine (KA.out id).mono ?_
  rintro e w1 ⟨rfl, e1⟩
  have HW : Hid (w1 = w) := e1
  subst e1
  rw [ew]
  go_wp2
  go_loopw [5] (fun i wr => ∃ k : Nat, k < L.length ∧ i = .int .i64 k ∧ Hid (topFr L id = topFr L (atF L k).id) ∧ Hid (wr = w1)) (fun i _ => (intOf i).toNat)
  case atStart => exact ⟨k0, hk0, rfl, HI, rfl⟩
  case round =>
    obtain ⟨k, hk, rfl, HR, HE⟩ := hrel
    have c1 : wr.cell? ⟨g, k * 9 + 1, none⟩ = some (.int .i64 (atF L k).pa) := by rw [HE.out]; exact HC.out k hk
    have k0' : (0 : Int) ≤ k := by omega
    have k1 : (k : Int) < L.length := by omega
    by_cases hp : (atF L k).pa = 0
    · have hq : ((atF L k).pa != 0) = false := by rw [hp]; rfl
      have HQ : Hid (atF L k = topFr L id) := by show _ = _; rw [HR.out, topFr_top HL.out hk hp]
      generalize (atF L k).pa = pa at *
      go_wp2
      go_ret
      exact ⟨⟨k, rfl, hk, HQ.out⟩, HE.out⟩
    · have hq : ((atF L k).pa != 0) = true := by rw [bne_iff_ne]; exact hp
      obtain ⟨j, hj, ej, eij⟩ := parent_here HL.out hk hp
      have HN : Hid (topFr L id = topFr L (atF L j).id) := by show _ = _; rw [HR.out, topFr_in HL.out hk (by omega) eij]
      have KA2 : Hid (Calls Tryz.prog 63 #[.slice (some ⟨g, 0, none⟩) L.length cap, .int .i64 (atF L k).pa] wr fun e w' => e = .returned (.int .i64 (j : Int)) ∧ w' = wr) := by
        have h := KA.out (atF L k).pa
        rw [ej] at h
        show Calls _ _ _ wr _
        rw [HE.out]; exact h
      clear ej eij HR
      generalize (atF L k).pa = pa at *
      go_wp2_with fail
      refine KA2.out.mono ?_
      rintro e w2 ⟨rfl, e2⟩
      have HE2 : Hid (w2 = w1) := e2.trans HE.out
      clear e2 c1 KA2 HE
      go_wp2
      go_roundw
      case rel => exact ⟨j, by omega, rfl, HN, HE2⟩
      case measure => simp [intOf]; omega
set_option maxRecDepth 10000 in
set_option maxHeartbeats 4000000 in
theorem specFrameTop_any (v : Value) (L : List Fr) (B : Nat) (id : Int) (w : World) (hs : SliceF w B v L) (hn : L.length ≤ 1048576) :
    Calls Tryz.prog 28 #[v, .int .i64 id] w fun e w' => e = .returned (.int .i64 (topF L id)) ∧ Below w.heap.size w w' := by
  have KA : Hid (∀ W, Below w.heap.size w W → Calls Tryz.prog 63 #[v, .int .i64 id] W fun e w' => e = .returned (.int .i64 (whF L id)) ∧ w' = W) := fun W hb => specAt_any v L B id W (hs.below hb) hn
  have KR : Hid (∀ W, Below w.heap.size w W → Calls Tryz.prog 17 #[v] W fun e w' => e = .returned (.bool (framesB L)) ∧ Below W.heap.size W w') := fun W hb => specFrames_any v L B W (hs.below hb) hn
  have KT : Hid (framesB L = true → hereF L id = true → ∀ W, Below w.heap.size w W → Calls Tryz.prog 74 #[v, .int .i64 id] W fun e w' => (∃ k : Nat, e = .returned (.int .i64 (k : Int)) ∧ k < L.length ∧ atF L k = topFr L id) ∧ w' = W) := fun h1 h2 W hb => specTop9_any v L B id W (hs.below hb) hn h1 h2
  have HE : Hid (topF L id = if (framesB L && hereF L id) = true then (topFr L id).id else 0) := rfl
  have HZ : Hid (hereF L id = decide (0 ≤ whF L id)) := rfl
  have HLong : Hid (10 < L.length → framesB L = false) := framesB_long
  have HC : Hid (∀ W, Below w.heap.size w W → ∀ k, k < L.length → ∃ g, v.ownBlock = some g ∧ W.cell? ⟨g, k * 9, none⟩ = some (.int .i64 (atF L k).id)) := fun W hb k hk => by
    obtain ⟨⟨p, cap, rfl, hg⟩, -⟩ := hs
    obtain ⟨g, rfl, -, hgw, hc⟩ := hg (by omega)
    exact ⟨g, rfl, (hb.cell (p := ⟨g, k * 9, none⟩) hgw).trans (hc k hk 0 (by omega)).1⟩
  have HV : Hid (∃ p cap, v = .slice p L.length cap ∧ (0 < L.length → ∃ g, p = some ⟨g, 0, none⟩)) := by
    obtain ⟨⟨p, c, e, hg⟩, -⟩ := hs
    exact ⟨p, c, e, fun h => by obtain ⟨g, e, -⟩ := hg h; exact ⟨g, e⟩⟩
  clear hs
  obtain ⟨p, cap, rfl, hp⟩ := HV.out
  have HP : Hid (0 < L.length → ∃ g, p = some ⟨g, 0, none⟩) := hp
  clear HV hp
  by_cases h400 : 400 < L.length
  · have HQ : Hid (topF L id = 0) := by show _ = _; rw [HE.out, HLong.out (by omega), Bool.false_and, if_neg (by decide)]
    have q4 : decide ((400 : Int) < (L.length : Int)) = true := by rw [decide_eq_true_iff]; omega
    generalize topF L id = R at *
    go_enter Tryz.func28, Tryz.ntmps28
    go_wp2
    go_ret
    exact ⟨ret_int HQ.out.symm, Below.refl _ _⟩
  have q4 : decide ((400 : Int) < (L.length : Int)) = false := by rw [decide_eq_false_iff_not]; omega
  clear HLong
  go_enter Tryz.func28, Tryz.ntmps28
  go_wp2_with fail
  refine (KR.out _ (Below.refl _ _)).mono ?_
  rintro e w1 ⟨rfl, hb1⟩
  have B1 : Hid (Below w.heap.size w w1) := hb1
  clear hb1 KR
  cases hfb : framesB L with
  | false =>
    have HQ : Hid (topF L id = 0) := by show _ = _; rw [HE.out, hfb, Bool.false_and, if_neg (by decide)]
    go_wp2
    go_ret
    exact ⟨ret_int HQ.out.symm, B1.out⟩
  | true =>
  go_wp2_with fail
  refine (KA.out _ B1.out).mono ?_
  rintro e w2 ⟨rfl, e2⟩
  subst e2
  clear KA
  cases hh : hereF L id with
  | false =>
    have q0 : decide (whF L id < 0) = true := by
      have h : hereF L id = decide (0 ≤ whF L id) := HZ.out
      rw [hh] at h
      have := of_decide_eq_false h.symm
      exact decide_eq_true (by omega)
    have HQ : Hid (topF L id = 0) := by show _ = _; rw [HE.out, hh, Bool.and_false, if_neg (by decide)]
    go_wp2
    go_ret
    exact ⟨ret_int HQ.out.symm, B1.out⟩
  | true =>
    have q0 : decide (whF L id < 0) = false := by
      have h : hereF L id = decide (0 ≤ whF L id) := HZ.out
      rw [hh] at h
      have := of_decide_eq_true h.symm
      exact decide_eq_false (by omega)
    have HQ : Hid (topF L id = (topFr L id).id) := by show _ = _; rw [HE.out, hfb, hh]; rfl
    have KT2 := KT.out hfb hh
    clear KT HE HZ hfb hh
    go_wp2_with fail
    refine (KT2 _ B1.out).mono ?_
    rintro e w3 ⟨⟨k, rfl, hk, ek⟩, e3⟩
    subst e3
    obtain ⟨g, rfl⟩ := HP.out (by omega)
    obtain ⟨g', eg, c0⟩ := HC.out _ B1.out k hk
    have eg2 : g = g' := Option.some.inj eg
    subst eg2
    have HQ2 : Hid (topF L id = (atF L k).id) := by show _ = _; rw [HQ.out, ek]
    have k0 : (0 : Int) ≤ k := by omega
    have k1 : (k : Int) < L.length := by omega
    clear HC HP KT2 HQ ek eg
    generalize (atF L k).id = x at *
    go_wp2
    go_ret
    exact ⟨ret_int (by rw [HQ2.out]), B1.out⟩
end Go.Proofs.YtnpaekjiafaahaaGreatDoor

/- A slice of texts that came in; the laws' szStringS and toStringS over it. -/
namespace Go.Proofs.YtnpaekjiafaahaaGreatDoor
open Go.RowKit

/-- n texts, f of each place, that a slice leads to -/
def StrRow (w : World) (a : Option Addr) (n : Nat) (f : Nat → ByteArray) : Prop := ∀ i, i < n → ∃ x, a = some x ∧ x.block < w.heap.size ∧ w.cell? (x.add i) = some (.string (f i)) ∧ (f i).size ≤ maxLen
theorem StrRow.below {w w' : World} {a : Option Addr} {n : Nat} {f : Nat → ByteArray} (h : StrRow w a n f) (hb : Below w.heap.size w w') : StrRow w' a n f := by
  intro i hi
  obtain ⟨x, e, hx, hc, hs⟩ := h i hi
  have hxb : (x.add i).block = x.block := by unfold Addr.add; split <;> rfl
  exact ⟨x, e, Nat.lt_of_lt_of_le hx hb.size, by rw [hb.cell (p := x.add i) (by rw [hxb]; exact hx)]; exact hc, hs⟩

set_option maxRecDepth 10000 in
set_option maxHeartbeats 400000 in
theorem szStringS_any (a : Option Addr) (n cap : Nat) (f : Nat → ByteArray) (l : Int) (w : World) (hr : StrRow w a n f) (hn : n ≤ maxLen) (h0 : 0 ≤ l) (h1 : l ≤ 1048576) :
    Calls Tryz.prog 33 #[.slice a n cap, .int .i64 l] w fun e w' => (∃ r : Int, e = .returned (.int .i64 r) ∧ (r < 0 ∨ (0 ≤ r ∧ r ≤ l ∧ (n : Int) ≤ l ∧ ∀ i, i < n → ((f i).size : Int) ≤ l))) ∧ w' = w := by
  unfold maxLen at hn
  by_cases hl : l < n
  · have q : decide (l - (n : Int) < 0) = true := by rw [decide_eq_true_iff]; omega
    go_enter Tryz.func33, Tryz.ntmps33
    go_wp2
    go_ret
    exact ⟨⟨_, rfl, .inl (by decide)⟩, rfl⟩
  have q : decide (l - (n : Int) < 0) = false := by rw [decide_eq_false_iff_not]; omega
  have HR : Hid (StrRow w a n f) := hr
  clear hr
  go_enter Tryz.func33, Tryz.ntmps33
  go_wp2
  go_loop [1, 5] (fun v i => ∃ (k : Nat) (z : Int), k ≤ n ∧ v = .int .i64 z ∧ i = .int .i64 k ∧ 0 ≤ z ∧ z ≤ l ∧ Hid (∀ i, i < k → ((f i).size : Int) ≤ l)) (fun _ i => n - (intOf i).toNat)
  case atStart => exact ⟨0, _, Nat.zero_le _, rfl, rfl, by omega, by omega, fun i hi => absurd hi (by omega)⟩
  case round =>
    obtain ⟨k, z, hk, rfl, rfl, z0, zl, HS⟩ := hrel
    by_cases hlt : k < n
    · obtain ⟨x, rfl, hx, hc, hs⟩ := HR.out k hlt
      unfold maxLen at hs
      have k0 : (0 : Int) ≤ k := by omega
      have k1 : (k : Int) < n := by omega
      by_cases hz : z < (f k).size
      · have q2 : decide (z - ((f k).size : Int) < 0) = true := by rw [decide_eq_true_iff]; omega
        go_wp2
        go_ret
        exact ⟨⟨_, rfl, .inl (by decide)⟩, rfl⟩
      · have q2 : decide (z - ((f k).size : Int) < 0) = false := by rw [decide_eq_false_iff_not]; omega
        go_wp2
        go_round
        case rel =>
          refine ⟨k + 1, _, by omega, rfl, by go_num, by omega, by omega, ?_⟩
          intro i hi
          by_cases e : i = k
          · subst e; omega
          · exact HS.out i (by omega)
        case measure => simp [intOf]; omega
    · go_wp2
      go_ret
      exact ⟨⟨_, rfl, .inr (by first | exact ⟨z0, zl, by omega, fun i hi => HS.out i (by omega)⟩ | exact ⟨z0, zl, fun i hi => HS.out i (by omega)⟩)⟩, rfl⟩

theorem infoStr2 : (Tryz.prog.info? 9).map (fun i => (i.zero, i.size, i.bytes)) = some (some (.string ⟨#[]⟩), 1, 16) := by kernel_rfl
theorem make_strs (w : World) (n : Nat) (hn : n ≤ 1048576) :
    ∃ w', Sem.run Tryz.prog (Instr.makeSlice 31 (.int .i64 (n : Int)) (.int .i64 (n : Int))) w = .ok (.slice (some ⟨w.heap.size, 0, none⟩) n n) w' ∧ w.heap.size < w'.heap.size ∧
      (∀ j, j < n → w'.cell? ⟨w.heap.size, j, none⟩ = some (.string ⟨#[]⟩) ∧ w'.frozen? ⟨w.heap.size, j, none⟩ = false) ∧ Below w.heap.size w w' := by
  obtain ⟨i, h2, h3, h4, h5⟩ := info_parts infoStr2
  have hrun := run_make (P := Tryz.prog) w 31 9 i (.string ⟨#[]⟩) Tryz.underlying31 h2 h3 .i64 .i64 n n (by omega) (Int.le_refl _) (by rw [h5]; omega) (by omega)
  simp only [Int.toNat_natCast, h4, Nat.mul_one] at hrun
  refine ⟨_, hrun, by simp, fun j hj => ⟨?_, by simp⟩, (Below.refl _ _).alloc (Nat.le_refl _) _⟩
  have e : madeCells (Value.string ⟨#[]⟩).cells n = Lib.cellsOf [] n := (Lib.cellsOf_nil n).symm
  rw [e, World.cell?_alloc_new]
  simp [Lib.cellsOf, hj]
  rfl

/-- the first k of f, the others empty -/
def upto (f : Nat → ByteArray) (k j : Nat) : ByteArray := if j < k then f j else ⟨#[]⟩
theorem upto_at (f : Nat → ByteArray) (k : Nat) : upto f (k + 1) k = f k := by unfold upto; rw [if_pos (Nat.lt_succ_self _)]
theorem upto_else (f : Nat → ByteArray) (k j : Nat) (h : ¬ j = k) : upto f (k + 1) j = upto f k j := by
  unfold upto
  by_cases hj : j < k
  · rw [if_pos hj, if_pos (by omega)]
  · rw [if_neg hj, if_neg (by omega)]
theorem upto_all (f : Nat → ByteArray) (n j : Nat) (h : j < n) : upto f n j = f j := by unfold upto; rw [if_pos h]
set_option maxRecDepth 10000 in
set_option maxHeartbeats 1000000 in
theorem toStringS_any (a : Option Addr) (n cap : Nat) (f : Nat → ByteArray) (w : World) (hr : StrRow w a n f) (hn : n ≤ 1048576) :
    Calls Tryz.prog 35 #[.slice a n cap] w fun e w' => ∃ v, e = .returned v ∧ SliceS w' w.heap.size v n f ∧ Below w.heap.size w w' := by
  have HR : Hid (StrRow w a n f) := hr
  clear hr
  obtain ⟨w1, hmk, hz1, hc1, hb1⟩ := make_strs w n hn
  have HC1 : Hid (∀ j, j < n → w1.cell? ⟨w.heap.size, j, none⟩ = some (.string (upto f 0 j)) ∧ w1.frozen? ⟨w.heap.size, j, none⟩ = false) := fun j hj => ⟨by rw [upto, if_neg (by omega)]; exact (hc1 j hj).1, (hc1 j hj).2⟩
  have HB1 : Hid (Below w.heap.size w w1) := hb1
  clear hc1 hb1
  go_enter Tryz.func35, Tryz.ntmps35
  go_wp2
  clear hmk
  go_loopw [4] (fun i wr => ∃ k : Nat, k ≤ n ∧ i = .int .i64 k ∧ w.heap.size < wr.heap.size ∧ Hid (Below w.heap.size w wr) ∧ Hid (∀ j, j < n → wr.cell? ⟨w.heap.size, j, none⟩ = some (.string (upto f k j)) ∧ wr.frozen? ⟨w.heap.size, j, none⟩ = false)) (fun i _ => n - (intOf i).toNat)
  case atStart => exact ⟨0, Nat.zero_le _, rfl, hz1, HB1, HC1⟩
  case round =>
    obtain ⟨k, hk, rfl, hzr, HB, HC⟩ := hrel
    by_cases hlt : k < n
    · obtain ⟨x, rfl, hx, hc, hs⟩ := HR.out k hlt
      have hxb : (x.add k).block = x.block := by unfold Addr.add; split <;> rfl
      have hcr : wr.cell? (x.add k) = some (.string (f k)) := by rw [HB.out.cell (p := x.add k) (by rw [hxb]; exact hx)]; exact hc
      have d1 := (HC.out k hlt).1
      have d2 := (HC.out k hlt).2
      have k0 : (0 : Int) ≤ k := by omega
      have k1 : (k : Int) < n := by omega
      clear hs hc
      go_wp2
      go_roundw
      case rel =>
        refine ⟨k + 1, by omega, by go_num, ?_, ?_, ?_⟩
        · simpa [World.setCell] using hzr
        · exact HB.out.setCell (Nat.le_refl _) _
        · intro j hj
          by_cases e : j = k
          · subst e
            rw [upto_at]
            exact ⟨World.cell?_setCell_same _ _ _ d1, by rw [World.frozen?_setCell]; exact d2⟩
          · rw [upto_else f k j e, World.cell?_setCell_other _ _ _ _ (by intro h; injection h with _ h; exact e h.symm), World.frozen?_setCell]
            exact HC.out j hj
      case measure => simp [intOf]; omega
    · go_wp2
      go_ret
      refine ⟨_, rfl, ⟨_, _, rfl, fun _ => ⟨w.heap.size, rfl, Nat.le_refl _, hzr, fun j hj => ?_⟩⟩, HB.out⟩
      have h := HC.out j hj
      obtain rfl : k = n := by omega
      rw [upto_all f k j hj] at h
      exact h
end Go.Proofs.YtnpaekjiafaahaaGreatDoor

/- The walk of the specification's l03Fits. -/
namespace Go.Proofs.YtnpaekjiafaahaaGreatDoor
open Go.RowKit

def fitAt (f1 f2 : Nat → ByteArray) (d i : Nat) : Bool := ((f1 i).toList == [42]) || ((f1 i).toList == (f2 (d + i)).toList)
/-- are the n1 texts f1 the last ones of the n2 texts f2, a star any one? -/
def fitsB (n1 : Nat) (f1 : Nat → ByteArray) (n2 : Nat) (f2 : Nat → ByteArray) : Bool := decide (n1 ≤ n2) && decide (∀ i, i < n1 → fitAt f1 f2 (n2 - n1) i = true)
theorem fitsB_long {n1 n2 : Nat} {f1 f2 : Nat → ByteArray} (h : n2 < n1) : fitsB n1 f1 n2 f2 = false := by unfold fitsB; rw [decide_eq_false (by omega)]; rfl
theorem fitsB_at {n1 d : Nat} {f1 f2 : Nat → ByteArray} (k : Nat) (h : k < n1) (hk : fitAt f1 f2 d k = false) : fitsB n1 f1 (d + n1) f2 = false := by
  unfold fitsB
  rw [Nat.add_sub_cancel, decide_eq_false (p := ∀ i, i < n1 → fitAt f1 f2 d i = true) (fun h' => by rw [h' k h] at hk; cases hk), Bool.and_false]
theorem fitsB_all {n1 d : Nat} {f1 f2 : Nat → ByteArray} (h : ∀ i, i < n1 → fitAt f1 f2 d i = true) : fitsB n1 f1 (d + n1) f2 = true := by
  unfold fitsB
  rw [Nat.add_sub_cancel, decide_eq_true h, decide_eq_true (show n1 ≤ d + n1 by omega)]; rfl

set_option maxRecDepth 10000 in
set_option maxHeartbeats 1000000 in
theorem specFits_any (v1 v2 : Value) (n1 n2 B1 B2 : Nat) (f1 f2 : Nat → ByteArray) (w : World) (h1 : SliceS w B1 v1 n1 f1) (h2 : SliceS w B2 v2 n2 f2) (l1 : n1 ≤ 1048576) (l2 : n2 ≤ 1048576) :
    Calls Tryz.prog 163 #[v1, v2] w fun e w' => e = .returned (.bool (fitsB n1 f1 n2 f2)) ∧ Below w.heap.size w w' := by
  obtain ⟨p1, c1, rfl, g1⟩ := h1
  obtain ⟨p2, c2, rfl, g2⟩ := h2
  have G1 : Hid (0 < n1 → ∃ g, p1 = some ⟨g, 0, none⟩ ∧ B1 ≤ g ∧ g < w.heap.size ∧ ∀ j, j < n1 → w.cell? ⟨g, j, none⟩ = some (.string (f1 j)) ∧ w.frozen? ⟨g, j, none⟩ = false) := g1
  have G2 : Hid (0 < n2 → ∃ g, p2 = some ⟨g, 0, none⟩ ∧ B2 ≤ g ∧ g < w.heap.size ∧ ∀ j, j < n2 → w.cell? ⟨g, j, none⟩ = some (.string (f2 j)) ∧ w.frozen? ⟨g, j, none⟩ = false) := g2
  clear g1 g2
  by_cases hl : n2 < n1
  · have HQ : Hid (fitsB n1 f1 n2 f2 = false) := fitsB_long hl
    have q : decide ((0 : Int) ≤ (n2 : Int) - (n1 : Int)) = false := by rw [decide_eq_false_iff_not]; omega
    have hp : 0 < n1 := by omega
    go_enter Tryz.func163, Tryz.ntmps163
    go_wp2
    go_loop [6] (fun i => i = .int .i64 0) (fun _ => 0)
    case atStart => rfl
    case round =>
      subst hrel
      go_wp2
      go_ret
      exact ⟨ret_bool HQ.out.symm, Below.refl _ _⟩
  obtain ⟨d, rfl⟩ : ∃ d, n2 = d + n1 := ⟨n2 - n1, by omega⟩
  have HA : Hid ((∀ k, k < n1 → fitAt f1 f2 d k = false → fitsB n1 f1 (d + n1) f2 = false) ∧ ((∀ i, i < n1 → fitAt f1 f2 d i = true) → fitsB n1 f1 (d + n1) f2 = true)) := ⟨fun k h hk => fitsB_at k h hk, fun h => fitsB_all h⟩
  generalize fitsB n1 f1 (d + n1) f2 = R at *
  clear hl
  have hd : (d : Int) + (n1 : Int) - (n1 : Int) = d := by omega
  have hd0 : (0 : Int) ≤ d := by omega
  go_enter Tryz.func163, Tryz.ntmps163
  go_wp2
  go_loopw [6] (fun i wr => ∃ k : Nat, k ≤ n1 ∧ i = .int .i64 k ∧ Hid (Below w.heap.size w wr) ∧ Hid (∀ j, j < k → fitAt f1 f2 d j = true)) (fun i _ => n1 - (intOf i).toNat)
  case atStart => exact ⟨0, Nat.zero_le _, rfl, Below.refl _ _, fun j hj => absurd hj (by omega)⟩
  case round =>
    obtain ⟨k, hk, rfl, HB, HR⟩ := hrel
    by_cases hlt : k < n1
    · obtain ⟨a, rfl, -, ha, hca⟩ := G1.out (by omega)
      obtain ⟨b, rfl, -, hb, hcb⟩ := G2.out (by omega)
      have d1 : wr.cell? ⟨a, k, none⟩ = some (.string (f1 k)) := by rw [(bcell HB.out).1 _ _ ha]; exact (hca k hlt).1
      have d2 : wr.cell? ⟨b, d + k, none⟩ = some (.string (f2 (d + k))) := by rw [(bcell HB.out).1 _ _ hb]; exact (hcb (d + k) (by omega)).1
      have k0 : (0 : Int) ≤ k := by omega
      have k1 : (k : Int) < n1 := by omega
      have k2 : (0 : Int) ≤ (d : Int) + k := by omega
      have k3 : (d : Int) + k < (d : Int) + n1 := by omega
      have hw : IntKind.i64.wrap ((d : Int) + (k : Int)) = (d : Int) + (k : Int) := by rw [IntKind.wrap_i64]; omega
      clear hca hcb
      cases hs : ((f1 k).toList == [42]) with
      | true =>
        have HK : Hid (fitAt f1 f2 d k = true) := by show _ = _; rw [fitAt, hs]; rfl
        generalize f1 k = t at *
        go_wp2
        go_region
        go_wp2
        go_roundw
        case rel =>
          refine ⟨k + 1, by omega, by go_num, HB.out.drew, ?_⟩
          intro j hj
          by_cases e : j = k
          · subst e; exact HK.out
          · exact HR.out j (by omega)
        case measure => simp [intOf]; omega
      | false =>
        cases hsame : ((f1 k).toList == (f2 (d + k)).toList) with
        | true =>
          have HK : Hid (fitAt f1 f2 d k = true) := by show _ = _; rw [fitAt, hs, hsame]; rfl
          generalize f1 k = t at *
          generalize f2 (d + k) = s at *
          go_wp2
          go_region
          go_wp2
          go_roundw
          case rel =>
            refine ⟨k + 1, by omega, by go_num, HB.out.drew, ?_⟩
            intro j hj
            by_cases e : j = k
            · subst e; exact HK.out
            · exact HR.out j (by omega)
          case measure => simp [intOf]; omega
        | false =>
          have HQ : Hid (R = false) := HA.out.1 k hlt (by rw [fitAt, hs, hsame]; rfl)
          generalize f1 k = t at *
          generalize f2 (d + k) = s at *
          go_wp2
          go_region
          go_wp2
          go_ret
          exact ⟨ret_bool HQ.out.symm, HB.out.drew⟩
    · go_wp2
      go_ret
      exact ⟨ret_bool (HA.out.2 (fun i hi => HR.out i (by omega))).symm, HB.out⟩
end Go.Proofs.YtnpaekjiafaahaaGreatDoor

/- The walk of the program's closure that tells whether a rule fits a host's labels from a place on. -/
namespace Go.Proofs.YtnpaekjiafaahaaGreatDoor
open Go.RowKit

/-- does a rule's text fit the labels from place k on, to their end? -/
def fitK (s : ByteArray) (k m : Nat) (h : Nat → ByteArray) : Bool := decide ((splitB s 46).length + k = m) && fitsB (splitB s 46).length (atL (splitB s 46)) m h
theorem fitK_other {s : ByteArray} {k m : Nat} {h : Nat → ByteArray} (e : ¬ (splitB s 46).length + k = m) : fitK s k m h = false := by unfold fitK; rw [decide_eq_false e]; rfl

set_option maxRecDepth 10000 in
set_option maxHeartbeats 1000000 in
theorem fit_any (s : ByteArray) (k m b B : Nat) (v : Value) (h : Nat → ByteArray) (w : World) (hG : MaxI w) (hs : s.size ≤ 1048576) (hb : b < w.heap.size) (hbc : w.cell? ⟨b, 0, none⟩ = some v) (hv : SliceS w B v m h) (hk : k ≤ m) (hm : m ≤ 1048576) :
    Calls Tryz.prog 159 #[.string s, .int .i64 k, .pointer (some ⟨b, 0, none⟩)] w fun e w' => e = .returned (.bool (fitK s k m h)) ∧ Below w.heap.size w w' := by
  obtain ⟨p2, c2, rfl, g2⟩ := hv
  have HG : Hid (MaxI w) := hG
  have G2 : Hid (0 < m → ∃ g, p2 = some ⟨g, 0, none⟩ ∧ B ≤ g ∧ g < w.heap.size ∧ ∀ j, j < m → w.cell? ⟨g, j, none⟩ = some (.string (h j)) ∧ w.frozen? ⟨g, j, none⟩ = false) := g2
  have HC : Hid (∀ W, MaxI W → Calls Tryz.prog 132 #[.string s, .string ⟨#[46]⟩] W fun e w' => e = .returned (.slice (some ⟨W.heap.size, 0, none⟩) (splitB s 46).length (splitB s 46).length) ∧ w' = W.alloc (.cells (strCells (splitB s 46)).toArray 9)) := fun W h => split_call s W h (by omega)
  have hn := splitB_len s 46
  obtain ⟨n0, hn0⟩ := splitB_ne s 46
  have HN : Hid (¬ (splitB s 46).length + k = m → fitK s k m h = false) := fun e => fitK_other e
  have HY : Hid (∀ n1, (splitB s 46).length = n1 → n1 + k = m → (∀ j, j < n1 → fitAt (atL (splitB s 46)) h k j = false → fitK s k m h = false) ∧ ((∀ j, j < n1 → fitAt (atL (splitB s 46)) h k j = true) → fitK s k m h = true)) := by
    rintro n1 rfl rfl
    rw [Nat.add_comm _ k]
    unfold fitK
    rw [Nat.add_comm _ k, decide_eq_true rfl, Bool.true_and]
    exact ⟨fun j hj hf => fitsB_at j hj hf, fun h => fitsB_all h⟩
  have hAt : ∀ j (hj : j < (splitB s 46).length), (splitB s 46)[j] = atL (splitB s 46) j := fun j hj => by simp [atL, hj]
  have HAt : Hid (∀ j (hj : j < (splitB s 46).length), (splitB s 46)[j] = atL (splitB s 46) j) := hAt
  clear g2 hG hAt
  generalize fitK s k m h = R at *
  generalize splitB s 46 = L at *
  go_enter Tryz.func159, Tryz.ntmps159
  go_wp2_with fail
  refine (HC.out _ HG.out).mono ?_
  rintro e w1 ⟨rfl, rfl⟩
  have hb1 : Below w.heap.size w (w.alloc (.cells (strCells L).toArray 9)) := (Below.refl _ _).alloc (Nat.le_refl _) _
  have hbc1 : (w.alloc (.cells (strCells L).toArray 9)).cell? ⟨b, 0, none⟩ = some (.slice p2 m c2) := by rw [(bcell hb1).1 _ _ hb]; exact hbc
  by_cases hl : L.length + k = m
  · have HY2 := HY.out _ rfl hl
    have q0 : ((L.length : Int) == (m : Int) - (k : Int)) = true := by rw [beq_iff_eq]; omega
    have HC1 : Hid (∀ j, j < L.length → (w.alloc (.cells (strCells L).toArray 9)).cell? ⟨w.heap.size, j, none⟩ = some (.string (atL L j))) := by
      intro j hj
      rw [← HAt.out j hj]
      simp [strCells, hj]
    have HB1 : Hid (Below w.heap.size w (w.alloc (.cells (strCells L).toArray 9))) := hb1
    have HY1 : Hid ((∀ j, j < L.length → fitAt (atL L) h k j = false → R = false) ∧ ((∀ j, j < L.length → fitAt (atL L) h k j = true) → R = true)) := HY2
    have hz1 : w.heap.size < (w.alloc (.cells (strCells L).toArray 9)).heap.size := by simp
    have hmp : 0 < m := by omega
    clear HY HY2 HN hb1 HC HAt
    generalize w.alloc (.cells (strCells L).toArray 9) = w1 at *
    generalize L.length = n at *
    generalize atL L = f at *
    go_wp2
    go_loopw [7, 19] (fun _ i wr => ∃ j : Nat, j ≤ n ∧ i = .int .i64 j ∧ Hid (Below w1.heap.size w1 wr) ∧ Hid (∀ i, i < j → fitAt f h k i = true)) (fun _ i _ => n - (intOf i).toNat)
    case atStart => exact ⟨0, Nat.zero_le _, rfl, Below.refl _ _, fun i hi => absurd hi (by omega)⟩
    case round =>
      obtain ⟨j, hj, rfl, HB, HR⟩ := hrel
      by_cases hlt : j < n
      · obtain ⟨g, rfl, -, hg, hcg⟩ := G2.out hmp
        have d1 : wr.cell? ⟨w.heap.size, j, none⟩ = some (.string (f j)) := by rw [(bcell HB.out).1 _ _ hz1]; exact HC1.out j hlt
        have d2 : wr.cell? ⟨g, k + j, none⟩ = some (.string (h (k + j))) := by
          rw [(bcell HB.out).1 _ _ (by omega), (bcell HB1.out).1 _ _ hg]; exact (hcg (k + j) (by omega)).1
        have d3 : wr.cell? ⟨b, 0, none⟩ = some (.slice (some ⟨g, 0, none⟩) m c2) := by rw [(bcell HB.out).1 _ _ (by omega)]; exact hbc1
        have k0 : (0 : Int) ≤ j := by omega
        have k1 : (j : Int) < n := by omega
        have k2 : (0 : Int) ≤ (k : Int) + j := by omega
        have k3 : (k : Int) + j < (m : Int) := by omega
        have hw : IntKind.i64.wrap ((k : Int) + (j : Int)) = (k : Int) + (j : Int) := by rw [IntKind.wrap_i64]; omega
        clear hcg
        cases hst : ((f j).toList == [42]) with
        | true =>
          have HK : Hid (fitAt f h k j = true) := by show _ = _; rw [fitAt, hst]; rfl
          generalize f j = t at *
          go_wp2
          go_region
          go_wp2
          go_roundw
          case rel =>
            refine ⟨j + 1, by omega, by go_num, HB.out.drew, ?_⟩
            intro i hi
            by_cases e : i = j
            · subst e; exact HK.out
            · exact HR.out i (by omega)
          case measure => simp [intOf]; omega
        | false =>
          cases hsame : ((f j).toList == (h (k + j)).toList) with
          | true =>
            have HK : Hid (fitAt f h k j = true) := by show _ = _; rw [fitAt, hst, hsame]; rfl
            generalize f j = t at *
            generalize h (k + j) = u at *
            go_wp2
            go_region
            go_wp2
            go_roundw
            case rel =>
              refine ⟨j + 1, by omega, by go_num, HB.out.drew, ?_⟩
              intro i hi
              by_cases e : i = j
              · subst e; exact HK.out
              · exact HR.out i (by omega)
            case measure => simp [intOf]; omega
          | false =>
            have HQ : Hid (R = false) := HY1.out.1 j hlt (by rw [fitAt, hst, hsame]; rfl)
            generalize f j = t at *
            generalize h (k + j) = u at *
            go_wp2
            go_region
            go_wp2
            go_ret
            exact ⟨ret_bool HQ.out.symm, HB1.out.trans (HB.out.drew.mono HB1.out.size)⟩
      · go_wp2
        go_ret
        exact ⟨ret_bool (HY1.out.2 (fun i hi => HR.out i (by omega))).symm, HB1.out.trans (HB.out.mono HB1.out.size)⟩
  · have HQ : Hid (R = false) := HN.out hl
    have q0 : ((L.length : Int) == (m : Int) - (k : Int)) = false := by rw [beq_eq_false_iff_ne]; omega
    clear HY HN
    go_wp2
    go_ret
    exact ⟨ret_bool HQ.out.symm, hb1⟩
end Go.Proofs.YtnpaekjiafaahaaGreatDoor

/- The first place of a text in another one, and the number that digits tell, as plain functions. -/
namespace Go.Proofs.YtnpaekjiafaahaaGreatDoor
/-- does x stand in t at place i? -/
def isAt (t x : ByteArray) (i : Nat) : Bool := (t.extract i (i + x.size)).toList == x.toList
/-- the first place of x in t among the first i ones -/
def findTo (t x : ByteArray) : Nat → Option Nat
  | 0 => none
  | i + 1 => match findTo t x i with
    | some k => some k
    | none => if i + x.size ≤ t.size ∧ isAt t x i = true then some i else none
def findN (t x : ByteArray) : Option Nat := findTo t x (t.size + 1)
/-- as the specification tells it: -1 of none -/
def findI (t x : ByteArray) : Int := match findN t x with | some k => (k : Int) | none => -1
theorem findTo_hit {t x : ByteArray} {i : Nat} (h : findTo t x i = none) (h1 : i + x.size ≤ t.size) (h2 : isAt t x i = true) : findTo t x (i + 1) = some i := by
  rw [findTo, h]; simp [h1, h2]
theorem findTo_miss {t x : ByteArray} {i : Nat} (h : findTo t x i = none) (h2 : ¬ (i + x.size ≤ t.size ∧ isAt t x i = true)) : findTo t x (i + 1) = none := by
  rw [findTo, h]; simp only; rw [if_neg h2]
theorem findTo_keep {t x : ByteArray} {i k : Nat} (h : findTo t x i = some k) (j : Nat) : findTo t x (i + j) = some k := by
  induction j with
  | zero => exact h
  | succ j ih => rw [← Nat.add_assoc, findTo, ih]
theorem findTo_after {t x : ByteArray} {i : Nat} (h : findTo t x i = none) (hi : t.size < i + x.size) (j : Nat) : findTo t x (i + j) = none := by
  induction j with
  | zero => exact h
  | succ j ih => rw [← Nat.add_assoc]; exact findTo_miss ih (by omega)
theorem findTo_lt {t x : ByteArray} {i k : Nat} (h : findTo t x i = some k) : k < i ∧ k + x.size ≤ t.size ∧ isAt t x k = true := by
  induction i with
  | zero => cases h
  | succ i ih =>
    rw [findTo] at h
    cases hf : findTo t x i with
    | some m =>
      rw [hf] at h
      obtain rfl : m = k := by simpa using h
      have := ih hf
      exact ⟨by omega, this.2⟩
    | none =>
      rw [hf] at h
      simp only at h
      split at h
      · rename_i hc
        obtain rfl : i = k := by simpa using h
        exact ⟨by omega, hc⟩
      · cases h
theorem findI_hit {t x : ByteArray} {i : Nat} (h : findTo t x i = none) (h1 : i + x.size ≤ t.size) (h2 : isAt t x i = true) : findI t x = i := by
  have h3 := findTo_keep (findTo_hit h h1 h2) (t.size - i)
  unfold findI findN
  rw [show t.size + 1 = i + 1 + (t.size - i) by omega, h3]
theorem findI_none {t x : ByteArray} {i : Nat} (h : findTo t x i = none) (hi : t.size < i + x.size) (hle : i ≤ t.size + 1) : findI t x = -1 := by
  have h3 := findTo_after h hi (t.size + 1 - i)
  unfold findI findN
  rw [show t.size + 1 = i + (t.size + 1 - i) by omega, h3]
/-- the number of the first i bytes as digits -/
def numTo (t : ByteArray) : Nat → Nat
  | 0 => 0
  | i + 1 => if h : i < t.size then 10 * numTo t i + (t[i].toNat - 48) else numTo t i
theorem numTo_succ {t : ByteArray} {i : Nat} (h : i < t.size) : numTo t (i + 1) = 10 * numTo t i + (t[i].toNat - 48) := by rw [numTo, dif_pos h]
theorem numTo_lt (t : ByteArray) (hd : ∀ i (h : i < t.size), 48 ≤ t[i].toNat ∧ t[i].toNat ≤ 57) (i : Nat) : numTo t i < 10 ^ i := by
  induction i with
  | zero => exact (by decide : 0 < 10 ^ 0)
  | succ i ih =>
    rw [numTo, Nat.pow_succ]
    split
    · rename_i h
      have := hd i h
      omega
    · omega
def digC (c : Nat) : Bool := decide (48 ≤ c ∧ c ≤ 57)
/-- digits that are no number of at most nine of them: -1 -/
def numI (t : ByteArray) : Int := if 1 ≤ t.size ∧ t.size ≤ 9 ∧ (1 < t.size → ∀ h : 0 < t.size, ¬ t[0].toNat = 48) ∧ ∀ i (h : i < t.size), digC t[i].toNat = true then (numTo t t.size : Int) else -1
theorem numI_size {t : ByteArray} (h : t.size < 1 ∨ 9 < t.size) : numI t = -1 := by
  unfold numI; rw [if_neg]; rintro ⟨a, b, _⟩; omega
theorem numI_first {t : ByteArray} (h : 1 < t.size) (hc : t[0].toNat = 48) : numI t = -1 := by
  unfold numI; rw [if_neg]; rintro ⟨_, _, a, _⟩; exact a h (by omega) hc
theorem numI_at {t : ByteArray} (k : Nat) (h : k < t.size) (hk : digC t[k].toNat = false) : numI t = -1 := by
  unfold numI; rw [if_neg]; rintro ⟨_, _, _, c⟩; rw [c k h] at hk; cases hk
theorem numI_yes {t : ByteArray} (h1 : 1 ≤ t.size) (h2 : t.size ≤ 9) (h3 : 1 < t.size → ∀ h : 0 < t.size, ¬ t[0].toNat = 48) (h : ∀ i (h : i < t.size), digC t[i].toNat = true) : numI t = numTo t t.size := by
  unfold numI; rw [if_pos ⟨h1, h2, h3, h⟩]
theorem digC_yes {c : Nat} (h : 48 ≤ c ∧ c ≤ 57) : digC c = true := by unfold digC; rw [decide_eq_true_iff]; exact h
theorem digC_no {c : Nat} (h : ¬ (48 ≤ c ∧ c ≤ 57)) : digC c = false := by unfold digC; rw [decide_eq_false_iff_not]; exact h
theorem digC_of {c : Nat} (h : digC c = true) : 48 ≤ c ∧ c ≤ 57 := by unfold digC at h; rwa [decide_eq_true_iff] at h
end Go.Proofs.YtnpaekjiafaahaaGreatDoor

/- The walks of the specification's l02Find (from place 0 on) and l02Num. -/
namespace Go.Proofs.YtnpaekjiafaahaaGreatDoor
open Go.RowKit

set_option maxRecDepth 10000 in
set_option maxHeartbeats 400000 in
theorem specFind_any (t x : ByteArray) (w : World) (ht : t.size ≤ 1048576) (hx : x.size ≤ 1048576) :
    Calls Tryz.prog 123 #[.string t, .int .i64 0, .string x] w fun e w' => e = .returned (.int .i64 (findI t x)) ∧ w' = w := by
  go_enter Tryz.func123, Tryz.ntmps123
  go_wp2
  go_loop [7] (fun i => ∃ k : Nat, k ≤ t.size + 1 ∧ i = .int .i64 k ∧ Hid (findTo t x k = none)) (fun i => t.size + 1 - (intOf i).toNat)
  case atStart => exact ⟨0, by omega, rfl, rfl⟩
  case round =>
    obtain ⟨k, hk, rfl, HN⟩ := hrel
    by_cases hle : k + x.size ≤ t.size
    · cases hat : isAt t x k with
      | true =>
        have HF : Hid (findI t x = k) := findI_hit HN.out hle hat
        have q : ((t.extract k (k + x.size)).toList == x.toList) = true := hat
        clear hat
        go_wp2
        go_ret
        exact ⟨ret_int HF.out.symm, rfl⟩
      | false =>
        have HF : Hid (findTo t x (k + 1) = none) := findTo_miss HN.out (by rw [hat]; simp)
        have q : ((t.extract k (k + x.size)).toList == x.toList) = false := hat
        clear hat
        go_wp2
        go_round
        case rel => exact ⟨k + 1, by omega, by go_num, HF⟩
        case measure => simp [intOf]; omega
    · have HF : Hid (findI t x = -1) := findI_none HN.out (by omega) hk
      go_wp2
      go_ret
      exact ⟨ret_int HF.out.symm, rfl⟩
set_option maxRecDepth 10000 in
set_option maxHeartbeats 400000 in
theorem specNum_any (t : ByteArray) (w : World) :
    Calls Tryz.prog 131 #[.string t] w fun e w' => e = .returned (.int .i64 (numI t)) ∧ w' = w := by
  by_cases h1 : t.size < 1
  · go_enter Tryz.func131, Tryz.ntmps131
    go_wp2
    go_ret
    exact ⟨ret_int (numI_size (.inl h1)).symm, rfl⟩
  have q1 : decide ((t.size : Int) < 1) = false := by rw [decide_eq_false_iff_not]; omega
  by_cases h2 : 9 < t.size
  · go_enter Tryz.func131, Tryz.ntmps131
    go_wp2
    go_ret
    exact ⟨ret_int (numI_size (.inr h2)).symm, rfl⟩
  have q2 : decide ((9 : Int) < (t.size : Int)) = false := by rw [decide_eq_false_iff_not]; omega
  have hp : 0 < t.size := by omega
  by_cases h3 : 1 < t.size ∧ t[0].toNat = 48
  · obtain ⟨h4, h5⟩ := h3
    have q3 : ((t[0].toNat : Int) == 48) = true := by rw [beq_iff_eq]; omega
    have H5 : Hid (t[0].toNat = 48) := h5
    clear h5
    go_enter Tryz.func131, Tryz.ntmps131
    go_wp2
    go_ret
    exact ⟨ret_int (numI_first h4 H5.out).symm, rfl⟩
  have H3 : Hid (1 < t.size → ∀ h : 0 < t.size, ¬ t[0].toNat = 48) := fun h _ hc => h3 ⟨h, hc⟩
  have HB : Hid (∀ k ≤ 9, 10 ^ k ≤ 1000000000) := fun k hk => Nat.le_trans (Nat.pow_le_pow_right (by omega) hk) (by decide)
  by_cases h4 : 1 < t.size
  all_goals
    first
      | (have q3 : ((t[0].toNat : Int) == 48) = false := by rw [beq_eq_false_iff_ne]; intro hc; exact h3 ⟨h4, by omega⟩)
      | (have q3 : decide ((1 : Int) < (t.size : Int)) = false := by rw [decide_eq_false_iff_not]; omega)
    clear h3
    go_enter Tryz.func131, Tryz.ntmps131
    go_wp2
    go_loop [3, 4] (fun n i => ∃ k : Nat, k ≤ t.size ∧ i = .int .i64 k ∧ n = .int .i64 (numTo t k : Nat) ∧ Hid (∀ i (h : i < t.size), i < k → digC t[i].toNat = true) ∧ Hid (numTo t k < 10 ^ k)) (fun _ i => t.size - (intOf i).toNat)
    case atStart => exact ⟨0, Nat.zero_le _, rfl, rfl, fun i _ hi => absurd hi (by omega), (by decide : 0 < 10 ^ 0)⟩
    case round =>
      obtain ⟨k, hk, rfl, rfl, HR, HL⟩ := hrel
      by_cases hlt : k < t.size
      · by_cases d1 : t[k].toNat < 48
        · go_wp2
          go_ret
          exact ⟨ret_int (numI_at k hlt (digC_no (by omega))).symm, rfl⟩
        have b1 : decide ((t[k].toNat : Int) < 48) = false := by rw [decide_eq_false_iff_not]; omega
        by_cases d2 : 57 < t[k].toNat
        · go_wp2
          go_ret
          exact ⟨ret_int (numI_at k hlt (digC_no (by omega))).symm, rfl⟩
        have b2 : decide ((57 : Int) < (t[k].toNat : Int)) = false := by rw [decide_eq_false_iff_not]; omega
        have hn : numTo t k ≤ 1000000000 := Nat.le_trans (Nat.le_of_lt HL.out) (HB.out k (by omega))
        have HS : Hid (numTo t (k + 1) = 10 * numTo t k + (t[k].toNat - 48)) := numTo_succ hlt
        have HL2 : Hid (numTo t (k + 1) < 10 ^ (k + 1)) := by
          show _ < _
          have := HL.out
          rw [HS.out, Nat.pow_succ]; omega
        generalize numTo t k = v at *
        go_wp2
        go_round
        case rel => exact ⟨k + 1, by omega, by go_num, val_int (by rw [HS.out]; omega), all_succ HR.out hlt (digC_yes (by omega)), HL2⟩
        case measure => simp [intOf]; omega
      · obtain rfl : k = t.size := by omega
        have HF : Hid (numI t = numTo t t.size) := numI_yes (by omega) (by omega) H3.out (fun i h => HR.out i h h)
        go_wp2
        go_ret
        exact ⟨ret_int HF.out.symm, rfl⟩
end Go.Proofs.YtnpaekjiafaahaaGreatDoor

/- The walk of the specification's RuleRight. -/
namespace Go.Proofs.YtnpaekjiafaahaaGreatDoor
open Go.RowKit

/-- does it begin with an exclamation mark? -/
def bangB (s : ByteArray) : Bool := decide (∃ h : 0 < s.size, s[0].toNat = 33)
/-- does it begin with a star and a point, and go on? -/
def starB (s : ByteArray) : Bool := decide (2 < s.size) && ((s.extract 0 2).toList == [42, 46])
/-- a right rule -/
def ruleB (s : ByteArray) : Bool := if bangB s = true then hostB (s.extract 1 s.size) && decide (0 ≤ findI s ⟨#[46]⟩) else if starB s = true then hostB (s.extract 2 s.size) else hostB s
theorem bangB_yes {s : ByteArray} (h : 0 < s.size) (h1 : s[0].toNat = 33) : bangB s = true := by unfold bangB; rw [decide_eq_true_iff]; exact ⟨h, h1⟩
theorem bangB_no {s : ByteArray} (h : ¬ ∃ h : 0 < s.size, s[0].toNat = 33) : bangB s = false := by unfold bangB; rw [decide_eq_false_iff_not]; exact h
theorem ruleB_bang {s : ByteArray} (h : bangB s = true) : ruleB s = (hostB (s.extract 1 s.size) && decide (0 ≤ findI s ⟨#[46]⟩)) := by rw [ruleB, if_pos h]
theorem ruleB_star {s : ByteArray} (h : bangB s = false) (h2 : starB s = true) : ruleB s = hostB (s.extract 2 s.size) := by rw [ruleB, if_neg (by simp [h]), if_pos h2]
theorem ruleB_host {s : ByteArray} (h : bangB s = false) (h2 : starB s = false) : ruleB s = hostB s := by rw [ruleB, if_neg (by simp [h]), if_neg (by simp [h2])]

set_option maxRecDepth 10000 in
set_option maxHeartbeats 400000 in
theorem specRule_any (s : ByteArray) (w : World) (hs : s.size ≤ 1048576) :
    Calls Tryz.prog 100 #[.string s] w fun e w' => e = .returned (.bool (ruleB s)) ∧ Below w.heap.size w w' := by
  by_cases hb : ∃ h : 0 < s.size, s[0].toNat = 33
  · obtain ⟨hp, h33⟩ := hb
    have HR : Hid (ruleB s = (hostB (s.extract 1 s.size) && decide (0 ≤ findI s ⟨#[46]⟩))) := ruleB_bang (bangB_yes hp h33)
    have q1 : ((s[0].toNat : Int) == 33) = true := by rw [beq_iff_eq]; omega
    have H1 := fun W => specHost_any (s.extract 1 s.size) W
    have H2 := fun W => specFind_any s ⟨#[46]⟩ W hs (by decide)
    generalize hostB (s.extract 1 s.size) = b at *
    generalize findI s ⟨#[46]⟩ = f at *
    have G1 : Hid (∀ W, Calls Tryz.prog 122 #[.string (s.extract 1 s.size)] W fun e w' => e = .returned (.bool b) ∧ Below W.heap.size W w') := H1
    have G2 : Hid (∀ W, Calls Tryz.prog 123 #[.string s, .int .i64 0, .string ⟨#[46]⟩] W fun e w' => e = .returned (.int .i64 f) ∧ w' = W) := H2
    clear H1 H2 h33
    cases b with
    | false =>
      go_enter Tryz.func100, Tryz.ntmps100
      go_wp2_with (go_at_call 122; refine (G1.out _).mono ?_; rintro e w1 ⟨rfl, hb1⟩)
      go_ret
      exact ⟨ret_bool (by rw [HR.out]; rfl), hb1⟩
    | true =>
      go_enter Tryz.func100, Tryz.ntmps100
      go_wp2_with (first | (go_at_call 122; refine (G1.out _).mono ?_; rintro e w1 ⟨rfl, hb1⟩) | (go_at_call 123; refine (G2.out _).mono ?_; rintro e w2 ⟨rfl, rfl⟩))
      go_ret
      exact ⟨ret_bool (by rw [HR.out]; rfl), hb1⟩
  · have hbf := bangB_no hb
    cases hst : starB s with
    | true =>
      have HR : Hid (ruleB s = hostB (s.extract 2 s.size)) := ruleB_star hbf hst
      unfold starB at hst
      rw [Bool.and_eq_true, decide_eq_true_eq] at hst
      obtain ⟨h2, q3⟩ := hst
      have hp : 0 < s.size := by omega
      have q1 : ((s[0].toNat : Int) == 33) = false := by
        rw [beq_eq_false_iff_ne]
        intro e
        exact hb ⟨hp, by omega⟩
      have H1 := fun W => specHost_any (s.extract 2 s.size) W
      generalize hostB (s.extract 2 s.size) = b at *
      have G1 : Hid (∀ W, Calls Tryz.prog 122 #[.string (s.extract 2 s.size)] W fun e w' => e = .returned (.bool b) ∧ Below W.heap.size W w') := H1
      clear H1 hb hbf
      go_enter Tryz.func100, Tryz.ntmps100
      go_wp2_with (go_at_call 122; refine (G1.out _).mono ?_; rintro e w1 ⟨rfl, hb1⟩)
      go_ret
      exact ⟨ret_bool HR.out.symm, hb1⟩
    | false =>
      have HR : Hid (ruleB s = hostB s) := ruleB_host hbf hst
      have H1 := fun W => specHost_any s W
      generalize hostB s = b at *
      have G1 : Hid (∀ W, Calls Tryz.prog 122 #[.string s] W fun e w' => e = .returned (.bool b) ∧ Below W.heap.size W w') := H1
      clear H1
      unfold starB at hst
      by_cases h0 : 0 < s.size
      · have q1 : ((s[0].toNat : Int) == 33) = false := by
          rw [beq_eq_false_iff_ne]
          intro e
          exact hb ⟨h0, by omega⟩
        by_cases h2 : 2 < s.size
        · have q3 : ((s.extract 0 2).toList == [42, 46]) = false := by
            rw [decide_eq_true h2, Bool.true_and] at hst; exact hst
          clear hst hb hbf
          go_enter Tryz.func100, Tryz.ntmps100
          go_wp2_with (go_at_call 122; refine (G1.out _).mono ?_; rintro e w1 ⟨rfl, hb1⟩)
          go_ret
          exact ⟨ret_bool HR.out.symm, hb1⟩
        · have q2 : decide ((2 : Int) < (s.size : Int)) = false := by rw [decide_eq_false_iff_not]; omega
          clear hst hb hbf
          go_enter Tryz.func100, Tryz.ntmps100
          go_wp2_with (go_at_call 122; refine (G1.out _).mono ?_; rintro e w1 ⟨rfl, hb1⟩)
          go_ret
          exact ⟨ret_bool HR.out.symm, hb1⟩
      · have q0 : decide ((0 : Int) < (s.size : Int)) = false := by rw [decide_eq_false_iff_not]; omega
        have q2 : decide ((2 : Int) < (s.size : Int)) = false := by rw [decide_eq_false_iff_not]; omega
        clear hst hb hbf
        go_enter Tryz.func100, Tryz.ntmps100
        go_wp2_with (go_at_call 122; refine (G1.out _).mono ?_; rintro e w1 ⟨rfl, hb1⟩)
        go_ret
        exact ⟨ret_bool HR.out.symm, hb1⟩
end Go.Proofs.YtnpaekjiafaahaaGreatDoor

/- What a right rule is, in the words of the library's functions. -/
namespace Go.Proofs.YtnpaekjiafaahaaGreatDoor

theorem findTo_none {t x : ByteArray} : ∀ {n : Nat}, findTo t x n = none → ∀ i, i < n → ¬ (i + x.size ≤ t.size ∧ isAt t x i = true)
  | 0, _, i, hi => absurd hi (by omega)
  | n + 1, h, i, hi => by
    rw [findTo] at h
    cases hf : findTo t x n with
    | some m => rw [hf] at h; cases h
    | none =>
      rw [hf] at h
      simp only at h
      by_cases e : i = n
      · subst e
        intro hc
        rw [if_pos hc] at h; cases h
      · exact findTo_none hf i (by omega)
theorem isAt_one {t : ByteArray} {c : UInt8} {i : Nat} (h : i < t.size) : isAt t ⟨#[c]⟩ i = true ↔ t.data.toList[i]? = some c := by
  have e : (t.extract i (i + (⟨#[c]⟩ : ByteArray).size)).toList = (t.data.toList.drop i).take 1 := by
    rw [Lib.toList_data, extract_list]
    rw [show (⟨#[c]⟩ : ByteArray).size = 1 from rfl, Nat.add_sub_cancel_left]
  have hl : i < t.data.toList.length := by simpa using h
  unfold isAt
  rw [e, Lib.toList_data, beq_iff_eq, List.drop_eq_getElem_cons hl, List.take_succ_cons, List.take_zero, List.getElem?_eq_getElem hl]
  simp
theorem find_mem (t : ByteArray) (c : UInt8) : 0 ≤ findI t ⟨#[c]⟩ ↔ c ∈ t.data.toList := by
  have h1 : (⟨#[c]⟩ : ByteArray).size = 1 := rfl
  unfold findI findN
  cases hf : findTo t ⟨#[c]⟩ (t.size + 1) with
  | some k =>
    simp only
    obtain ⟨_, hk, ha⟩ := findTo_lt hf
    rw [h1] at hk
    exact ⟨fun _ => List.mem_of_getElem? ((isAt_one (by omega)).1 ha), fun _ => by omega⟩
  | none =>
    simp only
    refine ⟨fun h => absurd h (by omega), fun h => ?_⟩
    obtain ⟨i, hi, e⟩ := List.getElem_of_mem h
    have hi2 : i < t.size := by simpa using hi
    exact absurd ⟨by rw [h1]; omega, (isAt_one hi2).2 (by rw [List.getElem?_eq_getElem hi, e])⟩ (findTo_none hf i (by omega))
theorem bytes_ext {a b : ByteArray} (h : a.data.toList = b.data.toList) : a = b := by
  cases a; cases b
  congr 1
  exact Array.toList_inj.1 h
theorem extract_to (s : ByteArray) (k : Nat) : (s.extract k s.size).data.toList = s.data.toList.drop k := by
  rw [extract_list, List.take_of_length_le]
  rw [List.length_drop, ← Lib.size_eq]
  omega
theorem bangB_lib (s : ByteArray) : bangB s = Lib.hasPrefix s.data.toList [33] := by
  have e := Lib.hasPrefix_raw s ⟨#[33]⟩
  have hd : (⟨#[33]⟩ : ByteArray).data.toList = [33] := rfl
  rw [hd] at e
  rw [← e]
  have h1 : (⟨#[33]⟩ : ByteArray).size = 1 := rfl
  unfold bangB
  rw [h1]
  by_cases h : 0 < s.size
  · have e2 := isAt_one (t := s) (c := 33) h
    unfold isAt at e2
    rw [h1, Nat.zero_add] at e2
    rw [decide_eq_true (show 1 ≤ s.size by omega), Bool.true_and]
    have hl : 0 < s.data.toList.length := by simpa using h
    rw [List.getElem?_eq_getElem hl, byte_list h] at e2
    rw [Bool.eq_iff_iff, decide_eq_true_iff, e2]
    constructor
    · rintro ⟨_, h3⟩
      congr 1
      exact UInt8.toNat_inj.1 h3
    · intro h3
      exact ⟨h, by rw [Option.some.inj h3]; rfl⟩
  · rw [decide_eq_false (show ¬ 1 ≤ s.size by omega), Bool.false_and, decide_eq_false_iff_not]
    rintro ⟨h2, _⟩; exact h h2
theorem starB_lib (s : ByteArray) : starB s = (decide (2 < s.size) && Lib.hasPrefix s.data.toList [42, 46]) := by
  have e := Lib.hasPrefix_raw s ⟨#[42, 46]⟩
  have hd : (⟨#[42, 46]⟩ : ByteArray).data.toList = [42, 46] := rfl
  have hd2 : (⟨#[42, 46]⟩ : ByteArray).toList = [42, 46] := by rw [Lib.toList_data]
  have h2 : (⟨#[42, 46]⟩ : ByteArray).size = 2 := rfl
  rw [hd, hd2, h2] at e
  unfold starB
  rw [← e]
  by_cases h : 2 < s.size
  · rw [decide_eq_true (show 2 ≤ s.size by omega), Bool.true_and]
  · rw [decide_eq_false h]; simp
/-- without the exclamation mark -/
def unbang (s : ByteArray) : ByteArray := ⟨(Lib.trimPrefix s.data.toList [33]).toArray⟩
theorem unbang_yes {s : ByteArray} (h : bangB s = true) : unbang s = s.extract 1 s.size := by
  rw [bangB_lib] at h
  apply bytes_ext
  rw [extract_to, unbang, Lib.trimPrefix, if_pos h]
  simp
/-- without the star and the point -/
def unstar (s : ByteArray) : ByteArray := ⟨(Lib.trimPrefix s.data.toList [42, 46]).toArray⟩
theorem hostB_starpoint : hostB ⟨#[42, 46]⟩ = false := hostB_at 0 (by decide) (by decide)
theorem hostB_empty : hostB ⟨#[]⟩ = false := hostB_at 0 (by decide) (by decide)
theorem ruleB_yes {s : ByteArray} (h : bangB s = true) : ruleB s = (hostB (unbang s) && decide (0 ≤ Lib.indexByte (unbang s).data.toList 46)) := by
  rw [ruleB_bang h, unbang_yes h]
  congr 1
  rw [← Lib.contains_iff_indexByte, extract_to, Bool.eq_iff_iff, decide_eq_true_iff, find_mem, List.contains_iff_mem]
  have hp : Lib.hasPrefix s.data.toList [33] = true := by rw [← bangB_lib]; exact h
  unfold Lib.hasPrefix at hp
  obtain ⟨r, hr⟩ := List.isPrefixOf_iff_prefix.1 hp
  rw [← hr]
  simp
theorem ruleB_no {s : ByteArray} (h : bangB s = false) : ruleB s = hostB (unstar s) := by
  have hst := starB_lib s
  cases hp : Lib.hasPrefix s.data.toList [42, 46] with
  | false =>
    rw [hp, Bool.and_false] at hst
    rw [ruleB_host h hst]
    congr 1
    apply bytes_ext
    rw [unstar, Lib.trimPrefix, if_neg (by rw [hp]; decide)]
  | true =>
    rw [hp, Bool.and_true] at hst
    by_cases h2 : 2 < s.size
    · rw [decide_eq_true h2] at hst
      rw [ruleB_star h hst]
      congr 1
      apply bytes_ext
      rw [extract_to, unstar, Lib.trimPrefix, if_pos hp]
      simp
    · rw [decide_eq_false h2] at hst
      rw [ruleB_host h hst]
      have hle : s.data.toList.length ≤ 2 := by rw [← Lib.size_eq]; omega
      unfold Lib.hasPrefix at hp
      have hp2 := List.isPrefixOf_iff_prefix.1 hp
      have e : s.data.toList = [42, 46] := (hp2.eq_of_length_le (by simpa using hle)).symm
      have e1 : s = ⟨#[42, 46]⟩ := bytes_ext (by rw [e])
      have e2 : unstar s = ⟨#[]⟩ := bytes_ext (by rw [unstar, e]; rfl)
      rw [e2, hostB_empty, e1, hostB_starpoint]
theorem unbang_le (s : ByteArray) : (unbang s).size ≤ s.size := by
  have : (unbang s).size = (Lib.trimPrefix s.data.toList [33]).length := by simp [unbang, ByteArray.size]
  rw [this, Lib.size_eq s]
  unfold Lib.trimPrefix
  split
  · rw [List.length_drop]; omega
  · exact Nat.le_refl _
theorem unstar_le (s : ByteArray) : (unstar s).size ≤ s.size := by
  have : (unstar s).size = (Lib.trimPrefix s.data.toList [42, 46]).length := by simp [unstar, ByteArray.size]
  rw [this, Lib.size_eq s]
  unfold Lib.trimPrefix
  split
  · rw [List.length_drop]; omega
  · exact Nat.le_refl _
end Go.Proofs.YtnpaekjiafaahaaGreatDoor

/- The walk of the specification's l03Labels. -/
namespace Go.Proofs.YtnpaekjiafaahaaGreatDoor
open Go.RowKit

/-- the labels of a rule, without the sign ahead -/
def ruleL (s : ByteArray) : List ByteArray := if bangB s = true then splitB (s.extract 1 s.size) 46 else splitB s 46

set_option maxRecDepth 10000 in
set_option maxHeartbeats 400000 in
theorem specRuleL_any (s : ByteArray) (w : World) (hp : 0 < s.size) (hs : s.size ≤ 1048576) :
    Calls Tryz.prog 162 #[.string s] w fun e w' => ∃ v, e = .returned v ∧ w'.ownsRow w.heap.size 9 1 v (ruleL s).length (strCells (ruleL s)) ∧ Below w.heap.size w w' := by
  by_cases h33 : s[0].toNat = 33
  · have q1 : ((s[0].toNat : Int) == 33) = true := by rw [beq_iff_eq]; omega
    have HL : Hid (ruleL s = splitB (s.extract 1 s.size) 46) := by show _ = _; rw [ruleL, if_pos (bangB_yes hp h33)]
    have HC : Hid (∀ W, Calls Tryz.prog 137 #[.string (s.extract 1 s.size), .int .u8 46] W fun e w' => ∃ v, e = .returned v ∧ w'.ownsRow W.heap.size 9 1 v (splitB (s.extract 1 s.size) 46).length (strCells (splitB (s.extract 1 s.size) 46)) ∧ Below W.heap.size W w') := fun W => split_any (s.extract 1 s.size) 46 W (by rw [ByteArray.size_extract]; omega)
    clear h33
    go_enter Tryz.func162, Tryz.ntmps162
    go_wp2_with fail
    refine (HC.out _).mono ?_
    rintro e w1 ⟨v, rfl, ho, hb⟩
    go_wp2
    go_ret
    exact ⟨_, rfl, by rw [HL.out]; exact ho, hb⟩
  · have q1 : ((s[0].toNat : Int) == 33) = false := by rw [beq_eq_false_iff_ne]; omega
    have HL : Hid (ruleL s = splitB s 46) := by
      show _ = _
      rw [ruleL, if_neg]
      rw [bangB_no (by rintro ⟨_, h⟩; exact h33 h)]; decide
    have HC : Hid (∀ W, Calls Tryz.prog 137 #[.string s, .int .u8 46] W fun e w' => ∃ v, e = .returned v ∧ w'.ownsRow W.heap.size 9 1 v (splitB s 46).length (strCells (splitB s 46)) ∧ Below W.heap.size W w') := fun W => split_any s 46 W hs
    clear h33
    go_enter Tryz.func162, Tryz.ntmps162
    go_wp2_with fail
    refine (HC.out _).mono ?_
    rintro e w1 ⟨v, rfl, ho, hb⟩
    go_wp2
    go_ret
    exact ⟨_, rfl, by rw [HL.out]; exact ho, hb⟩
end Go.Proofs.YtnpaekjiafaahaaGreatDoor

/- The walk of the specification's l03Count. -/
namespace Go.Proofs.YtnpaekjiafaahaaGreatDoor
open Go.RowKit

/-- does the rule fit the m labels h? -/
def fitR (s : ByteArray) (m : Nat) (h : Nat → ByteArray) : Bool := fitsB (ruleL s).length (atL (ruleL s)) m h
/-- of the first i rules: the most labels of a plain one that fits (at least 1), and of one with an exclamation mark -/
def cntTo (f : Nat → ByteArray) (m : Nat) (h : Nat → ByteArray) : Nat → Nat × Nat
  | 0 => (1, 0)
  | i + 1 => if fitR (f i) m h = true then (if bangB (f i) = true then ((cntTo f m h i).1, max (cntTo f m h i).2 (ruleL (f i)).length) else (max (cntTo f m h i).1 (ruleL (f i)).length, (cntTo f m h i).2)) else cntTo f m h i
def countN (n : Nat) (f : Nat → ByteArray) (m : Nat) (h : Nat → ByteArray) : Nat := if 0 < (cntTo f m h n).2 then (cntTo f m h n).2 - 1 else (cntTo f m h n).1
theorem ruleL_len (s : ByteArray) : (ruleL s).length ≤ s.size + 1 := by
  unfold ruleL
  split
  · have := splitB_len (s.extract 1 s.size) 46
    rw [ByteArray.size_extract] at this
    omega
  · exact splitB_len s 46

set_option maxRecDepth 10000 in
set_option maxHeartbeats 2000000 in
theorem specCount_any (v1 v2 : Value) (n m B1 B2 : Nat) (f h : Nat → ByteArray) (w : World) (h1 : SliceS w B1 v1 n f) (h2 : SliceS w B2 v2 m h) (l1 : n ≤ 1048576) (l2 : m ≤ 1048576) (hf : ∀ i, i < n → 0 < (f i).size ∧ (f i).size ≤ 1000) :
    Calls Tryz.prog 148 #[v1, v2] w fun e w' => e = .returned (.int .i64 (countN n f m h : Nat)) ∧ Below w.heap.size w w' := by
  have H2 : Hid (SliceS w B2 v2 m h) := h2
  have HF : Hid (∀ i, i < n → 0 < (f i).size ∧ (f i).size ≤ 1000) := hf
  obtain ⟨p1, c1, rfl, g1⟩ := h1
  have G1 : Hid (0 < n → ∃ g, p1 = some ⟨g, 0, none⟩ ∧ B1 ≤ g ∧ g < w.heap.size ∧ ∀ j, j < n → w.cell? ⟨g, j, none⟩ = some (.string (f j)) ∧ w.frozen? ⟨g, j, none⟩ = false) := g1
  clear g1 h2 hf
  go_enter Tryz.func148, Tryz.ntmps148
  go_wp2
  go_loopw [5, 6, 7] (fun b x i wr => ∃ k p q : Nat, k ≤ n ∧ p ≤ 1001 ∧ q ≤ 1001 ∧ b = .int .i64 p ∧ x = .int .i64 q ∧ i = .int .i64 k ∧ Hid (Below w.heap.size w wr) ∧ Hid (cntTo f m h k = (p, q))) (fun _ _ i _ => n - (intOf i).toNat)
  case atStart => exact ⟨0, 1, 0, Nat.zero_le _, by omega, by omega, rfl, rfl, rfl, Below.refl _ _, rfl⟩
  case round =>
    obtain ⟨k, p, q, hk, hp, hq, rfl, rfl, rfl, HB, HR⟩ := hrel
    by_cases hlt : k < n
    · obtain ⟨g, rfl, -, hgw, hc⟩ := G1.out (by omega)
      have hck : wr.cell? ⟨g, k, none⟩ = some (.string (f k)) := by rw [(bcell HB.out).1 _ _ hgw]; exact (hc k hlt).1
      have hz : g < wr.heap.size := Nat.lt_of_lt_of_le hgw HB.out.size
      obtain ⟨f0, f1⟩ := HF.out k hlt
      have hrl := ruleL_len (f k)
      have KL : Hid (∀ W, Calls Tryz.prog 162 #[.string (f k)] W fun e w' => ∃ v, e = .returned v ∧ w'.ownsRow W.heap.size 9 1 v (ruleL (f k)).length (strCells (ruleL (f k))) ∧ Below W.heap.size W w') := fun W => specRuleL_any (f k) W f0 (by omega)
      have HN : Hid (cntTo f m h (k + 1) = if fitR (f k) m h = true then (if bangB (f k) = true then ((cntTo f m h k).1, max (cntTo f m h k).2 (ruleL (f k)).length) else (max (cntTo f m h k).1 (ruleL (f k)).length, (cntTo f m h k).2)) else cntTo f m h k) := rfl
      rw [HR.out] at HN
      have k0 : (0 : Int) ≤ k := by omega
      have k1 : (k : Int) < n := by omega
      clear hc
      go_wp2_with fail
      refine (KL.out _).mono ?_
      rintro e w1 ⟨v, rfl, ho, hb1⟩
      have sl := slice_of_own ho
      have B1' : Hid (Below w.heap.size w w1) := HB.out.trans (hb1.mono HB.out.size)
      have hck1 : w1.cell? ⟨g, k, none⟩ = some (.string (f k)) := by rw [(bcell hb1).1 _ _ hz]; exact hck
      have hz1 : g < w1.heap.size := Nat.lt_of_lt_of_le hz hb1.size
      obtain ⟨pv, cv, rfl, -⟩ := sl
      have KF : Hid (Calls Tryz.prog 163 #[.slice pv (ruleL (f k)).length cv, v2] w1 fun e w' => e = .returned (.bool (fitR (f k) m h)) ∧ Below w1.heap.size w1 w') := specFits_any _ v2 _ m _ B2 _ h w1 (slice_of_own ho) (H2.out.below B1'.out) (by omega) l2
      generalize (ruleL (f k)).length = r at *
      generalize fitR (f k) m h = fb at *
      clear ho hb1
      cases fb with
      | false =>
        rw [if_neg (by decide)] at HN
        go_wp2_with (go_at_call 163; refine KF.out.mono ?_; rintro e w2 ⟨rfl, hb2⟩; have B2' : Hid (Below w.heap.size w w2) := B1'.out.trans (hb2.mono B1'.out.size))
        go_roundw
        case rel => exact ⟨k + 1, p, q, by omega, hp, hq, rfl, rfl, by go_num, B2', HN⟩
        case measure => simp [intOf]; omega
      | true =>
        rw [if_pos rfl] at HN
        by_cases h33 : (f k)[0].toNat = 33
        · rw [if_pos (bangB_yes f0 h33)] at HN
          have q1 : (((f k)[0].toNat : Int) == 33) = true := by rw [beq_iff_eq]; omega
          clear h33
          generalize f k = t at *
          by_cases hrq : q < r
          · have q2 : decide ((q : Int) < (r : Int)) = true := by rw [decide_eq_true_iff]; omega
            go_wp2_with (go_at_call 163; refine KF.out.mono ?_; rintro e w2 ⟨rfl, hb2⟩; have B2' : Hid (Below w.heap.size w w2) := B1'.out.trans (hb2.mono B1'.out.size); have hck2 : w2.cell? ⟨g, k, none⟩ = some (.string t) := ((bcell hb2).1 _ _ hz1).trans hck1)
            go_roundw
            case rel => exact ⟨k + 1, p, r, by omega, hp, by omega, rfl, rfl, by go_num, B2', by rw [show max q r = r by omega] at HN; exact HN⟩
            case measure => simp [intOf]; omega
          · have q2 : decide ((q : Int) < (r : Int)) = false := by rw [decide_eq_false_iff_not]; omega
            go_wp2_with (go_at_call 163; refine KF.out.mono ?_; rintro e w2 ⟨rfl, hb2⟩; have B2' : Hid (Below w.heap.size w w2) := B1'.out.trans (hb2.mono B1'.out.size); have hck2 : w2.cell? ⟨g, k, none⟩ = some (.string t) := ((bcell hb2).1 _ _ hz1).trans hck1)
            go_roundw
            case rel => exact ⟨k + 1, p, q, by omega, hp, hq, rfl, rfl, by go_num, B2', by rw [show max q r = q by omega] at HN; exact HN⟩
            case measure => simp [intOf]; omega
        · rw [if_neg (by rw [bangB_no (by rintro ⟨_, h⟩; exact h33 h)]; decide)] at HN
          have q1 : (((f k)[0].toNat : Int) == 33) = false := by rw [beq_eq_false_iff_ne]; omega
          clear h33
          generalize f k = t at *
          by_cases hrp : p < r
          · have q2 : decide ((p : Int) < (r : Int)) = true := by rw [decide_eq_true_iff]; omega
            go_wp2_with (go_at_call 163; refine KF.out.mono ?_; rintro e w2 ⟨rfl, hb2⟩; have B2' : Hid (Below w.heap.size w w2) := B1'.out.trans (hb2.mono B1'.out.size); have hck2 : w2.cell? ⟨g, k, none⟩ = some (.string t) := ((bcell hb2).1 _ _ hz1).trans hck1)
            go_roundw
            case rel => exact ⟨k + 1, r, q, by omega, by omega, hq, rfl, rfl, by go_num, B2', by rw [show max p r = r by omega] at HN; exact HN⟩
            case measure => simp [intOf]; omega
          · have q2 : decide ((p : Int) < (r : Int)) = false := by rw [decide_eq_false_iff_not]; omega
            go_wp2_with (go_at_call 163; refine KF.out.mono ?_; rintro e w2 ⟨rfl, hb2⟩; have B2' : Hid (Below w.heap.size w w2) := B1'.out.trans (hb2.mono B1'.out.size); have hck2 : w2.cell? ⟨g, k, none⟩ = some (.string t) := ((bcell hb2).1 _ _ hz1).trans hck1)
            go_roundw
            case rel => exact ⟨k + 1, p, q, by omega, hp, hq, rfl, rfl, by go_num, B2', by rw [show max p r = p by omega] at HN; exact HN⟩
            case measure => simp [intOf]; omega
    · have hkn : k = n := by omega
      subst hkn
      have HQ : Hid (countN k f m h = if 0 < q then q - 1 else p) := by show _ = _; rw [countN, HR.out]
      by_cases hq0 : 0 < q
      · rw [if_pos hq0] at HQ
        have e : ((q : Int) - 1) = ((q - 1 : Nat) : Int) := by omega
        go_wp2
        go_ret
        exact ⟨ret_int (by first | (rw [HQ.out]; done) | (rw [HQ.out]; omega)), HB.out⟩
      · rw [if_neg hq0] at HQ
        have q0 : decide ((0 : Int) < (q : Int)) = false := by rw [decide_eq_false_iff_not]; omega
        go_wp2
        go_ret
        exact ⟨ret_int (by first | (rw [HQ.out]; done) | (rw [HQ.out]; omega)), HB.out⟩
end Go.Proofs.YtnpaekjiafaahaaGreatDoor

/- The walk of the specification's l03Tail. -/
namespace Go.Proofs.YtnpaekjiafaahaaGreatDoor
open Go.RowKit

/-- j texts from place d on, with a point between -/
def tailN (f : Nat → ByteArray) (d : Nat) : Nat → ByteArray
  | 0 => ⟨#[]⟩
  | j + 1 => if (tailN f d j).toList.isEmpty = true then tailN f d j ++ f (d + j) else tailN f d j ++ ⟨#[46]⟩ ++ f (d + j)
theorem tailN_size {f : Nat → ByteArray} {d : Nat} (N : Nat) : ∀ j, (∀ i, i < j → (f (d + i)).size ≤ N) → (tailN f d j).size ≤ (N + 1) * j
  | 0, _ => Nat.zero_le _
  | j + 1, h => by
    have ih := tailN_size N j (fun i hi => h i (by omega))
    have hj := h j (by omega)
    have e : (⟨#[46]⟩ : ByteArray).size = 1 := rfl
    rw [tailN, Nat.mul_succ]
    split
    · rw [ByteArray.size_append]; omega
    · rw [ByteArray.size_append, ByteArray.size_append, e]; omega

set_option maxRecDepth 10000 in
set_option maxHeartbeats 1000000 in
theorem specTail_any (v : Value) (d n B : Nat) (f : Nat → ByteArray) (w : World) (hs : SliceS w B v (d + n) f) (hn : d + n ≤ 101) (hf : ∀ i, i < d + n → (f i).size ≤ 100) :
    Calls Tryz.prog 149 #[v, .int .i64 n] w fun e w' => e = .returned (.string (tailN f d n)) ∧ w' = w := by
  obtain ⟨p, cap, rfl, hg⟩ := hs
  have HG : Hid (0 < d + n → ∃ g, p = some ⟨g, 0, none⟩ ∧ B ≤ g ∧ g < w.heap.size ∧ ∀ j, j < d + n → w.cell? ⟨g, j, none⟩ = some (.string (f j)) ∧ w.frozen? ⟨g, j, none⟩ = false) := hg
  have HF : Hid (∀ i, i < d + n → (f i).size ≤ 100) := hf
  clear hg hf
  have hd : (d : Int) + (n : Int) - (n : Int) = d := by omega
  go_enter Tryz.func149, Tryz.ntmps149
  go_wp2
  go_loop [5, 6] (fun t i => ∃ j : Nat, j ≤ n ∧ i = .int .i64 ((d + j : Nat) : Int) ∧ t = .string (tailN f d j)) (fun _ i => d + n - (intOf i).toNat)
  case atStart => exact ⟨0, Nat.zero_le _, by simp, rfl⟩
  case round =>
    obtain ⟨j, hj, rfl, rfl⟩ := hrel
    by_cases hlt : j < n
    · obtain ⟨g, rfl, -, -, hc⟩ := HG.out (by omega)
      have c1 := (hc (d + j) (by omega)).1
      have hz := HF.out (d + j) (by omega)
      have hz2 := tailN_size (f := f) (d := d) 100 j (fun i hi => HF.out (d + i) (by omega))
      have hz3 : (tailN f d j).size ≤ 10201 := by
        have : (100 + 1) * j ≤ 101 * 101 := Nat.mul_le_mul_left 101 (by omega)
        omega
      have k0 : (0 : Int) ≤ (d : Int) + j := by omega
      have k1 : (d : Int) + j < (d : Int) + n := by omega
      have HN : Hid (tailN f d (j + 1) = if (tailN f d j).toList.isEmpty = true then tailN f d j ++ f (d + j) else tailN f d j ++ ⟨#[46]⟩ ++ f (d + j)) := rfl
      have e1 : (⟨#[46]⟩ : ByteArray).size = 1 := rfl
      have hz4 : (tailN f d j ++ (⟨#[46]⟩ : ByteArray)).size ≤ 10202 := by rw [ByteArray.size_append]; omega
      clear hc hz2
      generalize tailN f d j = t at *
      generalize f (d + j) = x at *
      cases he : t.toList.isEmpty with
      | true =>
        rw [he, if_pos rfl] at HN
        go_wp2
        go_round
        case rel => exact ⟨j + 1, by omega, by go_num, by rw [HN.out]⟩
        case measure => simp [intOf]; omega
      | false =>
        rw [he, if_neg (by decide)] at HN
        go_wp2
        go_round
        case rel => exact ⟨j + 1, by omega, by go_num, by rw [HN.out]⟩
        case measure => simp [intOf]; omega
    · obtain rfl : j = n := by omega
      go_wp2
      go_ret
      exact ⟨rfl, rfl⟩
end Go.Proofs.YtnpaekjiafaahaaGreatDoor

/- The walk of the specification's l03Of: a right host's suffix and domain. -/
namespace Go.Proofs.YtnpaekjiafaahaaGreatDoor
open Go.RowKit

theorem fitR_len {s : ByteArray} {m : Nat} {h : Nat → ByteArray} (e : fitR s m h = true) : (ruleL s).length ≤ m := by
  unfold fitR fitsB at e
  rw [Bool.and_eq_true, decide_eq_true_eq] at e
  exact e.1
theorem cntTo_le (f : Nat → ByteArray) {m : Nat} (h : Nat → ByteArray) (hm : 1 ≤ m) : ∀ i, (cntTo f m h i).1 ≤ m ∧ (cntTo f m h i).2 ≤ m
  | 0 => ⟨hm, Nat.zero_le _⟩
  | i + 1 => by
    obtain ⟨h1, h2⟩ := cntTo_le f h hm i
    rw [cntTo]
    split
    · rename_i hf
      have := fitR_len hf
      split
      · exact ⟨h1, by show max _ _ ≤ m; omega⟩
      · exact ⟨by show max _ _ ≤ m; omega, h2⟩
    · exact ⟨h1, h2⟩
theorem countN_le (n : Nat) (f : Nat → ByteArray) {m : Nat} (h : Nat → ByteArray) (hm : 1 ≤ m) : countN n f m h ≤ m := by
  obtain ⟨h1, h2⟩ := cntTo_le f h hm n
  unfold countN
  split
  · omega
  · exact h1
/-- how many labels are the suffix -/
def sufC (n : Nat) (f : Nat → ByteArray) (s : ByteArray) : Nat := countN n f (splitB s 46).length (atL (splitB s 46))
def sufS (n : Nat) (f : Nat → ByteArray) (s : ByteArray) : ByteArray := tailN (atL (splitB s 46)) ((splitB s 46).length - sufC n f s) (sufC n f s)
def sufD (n : Nat) (f : Nat → ByteArray) (s : ByteArray) : ByteArray := if sufC n f s < (splitB s 46).length then tailN (atL (splitB s 46)) ((splitB s 46).length - (sufC n f s + 1)) (sufC n f s + 1) else ⟨#[]⟩
/-- two empty cells of an answer -/
def U2 (w : World) (b : Nat) : Prop := b < w.heap.size ∧ w.cell? ⟨b, 0, none⟩ = some (.string ⟨#[]⟩) ∧ w.cell? ⟨b, 1, none⟩ = some (.string ⟨#[]⟩) ∧ ∀ o, w.frozen? ⟨b, o, none⟩ = false
theorem U2.below {w w' : World} {b : Nat} (h : U2 w b) (hb : Below w.heap.size w w') : U2 w' b := by
  obtain ⟨hz, c0, c1, hf⟩ := h
  exact ⟨Nat.lt_of_lt_of_le hz hb.size, ((bcell hb).1 _ _ hz).trans c0, ((bcell hb).1 _ _ hz).trans c1, fun o => ((bcell hb).2 _ _ hz).trans (hf o)⟩
/-- a SuffixOut, as a value -/
def sufV (a b : ByteArray) : Value := .agg #[.string a, .string b]
theorem splitTo_small (s : ByteArray) (c : Nat) : ∀ i, ∀ x ∈ (splitTo s c i).1, x.size ≤ s.size
  | 0, x, h => by cases h
  | i + 1, x, h => by
    rw [splitTo] at h
    split at h
    · split at h
      · rw [List.mem_append] at h
        rcases h with h | h
        · exact splitTo_small s c i x h
        · rw [List.mem_singleton] at h
          rw [h, ByteArray.size_extract]; omega
      · exact splitTo_small s c i x h
    · exact splitTo_small s c i x h
theorem piece_small {s : ByteArray} (hs : s.size ≤ 100) : ∀ i, i < (splitB s 46).length → (atL (splitB s 46) i).size ≤ 100 := by
  intro i hi
  have e : atL (splitB s 46) i = (splitB s 46)[i] := by simp [atL, hi]
  rw [e]
  have : (splitB s 46)[i] ∈ splitB s 46 := List.getElem_mem hi
  unfold splitB at this
  rw [List.mem_append] at this
  rcases this with h | h
  · exact Nat.le_trans (splitTo_small s 46 s.size _ h) hs
  · rw [List.mem_singleton] at h
    have h2 : (splitB s 46)[i] = s.extract (splitTo s 46 s.size).2 s.size := h
    rw [h2, ByteArray.size_extract]; omega

set_option maxRecDepth 10000 in
set_option maxHeartbeats 2000000 in
theorem specOf_any (v : Value) (n B : Nat) (f : Nat → ByteArray) (s : ByteArray) (w : World) (hs : SliceS w B v n f) (l1 : n ≤ 1048576) (hf : ∀ i, i < n → 0 < (f i).size ∧ (f i).size ≤ 1000) (hz : s.size ≤ 100) :
    Calls Tryz.prog 130 #[v, .string s] w fun e w' => e = .returned (sufV (sufS n f s) (sufD n f s)) ∧ Below w.heap.size w w' := by
  have HSl : Hid (SliceS w B v n f) := hs
  have HP := piece_small hz
  have hm := splitB_len s 46
  obtain ⟨m0, hm0⟩ := splitB_ne s 46
  have HC : Hid (∀ W, Calls Tryz.prog 137 #[.string s, .int .u8 46] W fun e w' => ∃ v, e = .returned v ∧ w'.ownsRow W.heap.size 9 1 v (splitB s 46).length (strCells (splitB s 46)) ∧ Below W.heap.size W w') := fun W => split_any s 46 W (by omega)
  have hle : sufC n f s ≤ (splitB s 46).length := countN_le n f _ (by omega)
  have ES : Hid (sufS n f s = tailN (atL (splitB s 46)) ((splitB s 46).length - sufC n f s) (sufC n f s)) := rfl
  have ED : Hid (sufD n f s = if sufC n f s < (splitB s 46).length then tailN (atL (splitB s 46)) ((splitB s 46).length - (sufC n f s + 1)) (sufC n f s + 1) else ⟨#[]⟩) := rfl
  have EC : Hid (∀ (v2 : Value) (B2 : Nat) (W : World), SliceS W B v n f → SliceS W B2 v2 (splitB s 46).length (atL (splitB s 46)) → Calls Tryz.prog 148 #[v, v2] W fun e w' => e = .returned (.int .i64 (sufC n f s : Nat)) ∧ Below W.heap.size W w') := fun v2 B2 W a b => specCount_any v v2 n _ B B2 f _ W a b l1 (by omega) hf
  clear hs hf hm0
  generalize sufC n f s = c at *
  generalize sufS n f s = sS at *
  generalize sufD n f s = sD at *
  go_enter Tryz.func130, Tryz.ntmps130
  go_wp2_with fail
  refine (HC.out _).mono ?_
  rintro e w1 ⟨vL, rfl, ho, hb1⟩
  have sl := slice_of_own ho
  have B1' : Hid (Below w.heap.size w w1) := ((Below.refl _ _).alloc (Nat.le_refl _) _).trans (hb1.mono (by simp))
  have r1 : U2 w1 w.heap.size := ⟨by have := hb1.size; simp at this; omega, by rw [(bcell hb1).1 _ _ (by simp)]; simp, by rw [(bcell hb1).1 _ _ (by simp)]; simp, fun o => by rw [(bcell hb1).2 _ _ (by simp)]; simp⟩
  have SL1 : Hid (SliceS w1 (w.alloc (.cells #[.string ⟨#[]⟩, .string ⟨#[]⟩] 125)).heap.size vL (splitB s 46).length (atL (splitB s 46))) := sl
  clear ho hb1
  generalize (splitB s 46).length = m at *
  generalize atL (splitB s 46) = h at *
  go_wp2_with fail
  refine (EC.out vL _ w1 (HSl.out.below B1'.out) sl).mono ?_
  rintro e w2 ⟨rfl, hb2⟩
  have SL2 := SL1.out.below hb2
  have r2 := r1.below hb2
  have B2' : Hid (Below w.heap.size w w2) := B1'.out.trans (hb2.mono B1'.out.size)
  clear hb2 sl SL1 r1 EC HC
  obtain ⟨d, rfl⟩ : ∃ d, m = d + c := ⟨m - c, by omega⟩
  rw [Nat.add_sub_cancel] at ES
  have HPP : Hid (∀ i, i < d + c → (h i).size ≤ 100) := HP
  have KT := specTail_any vL d c _ h w2 SL2 (by omega) HP
  rw [← ES.out] at KT
  have SLH : Hid (SliceS w2 (w.alloc (.cells #[.string ⟨#[]⟩, .string ⟨#[]⟩] 125)).heap.size vL (d + c) h) := SL2
  obtain ⟨pv, cv, rfl, -⟩ := SL2
  have KT1 : Hid (Calls Tryz.prog 149 #[.slice pv (d + c) cv, .int .i64 c] w2 fun e w' => e = .returned (.string sS) ∧ w' = w2) := KT
  clear KT HP ES
  obtain ⟨hz2, x0, x1, xf⟩ := r2
  by_cases hd : d = 0
  · have q : decide ((c : Int) < (d : Int) + (c : Int)) = false := by rw [decide_eq_false_iff_not]; omega
    have HD : Hid (sD = ⟨#[]⟩) := by show _ = _; rw [ED.out, if_neg (by omega)]
    clear hd ED
    go_wp2_with (go_at_call 149; refine KT1.out.mono ?_; rintro e w3 ⟨rfl, rfl⟩)
    have y0 : (((w3.setCell ⟨w.heap.size, 0, none⟩ (.string sS)).setCell ⟨w.heap.size, 1, none⟩ (.string ⟨#[]⟩)).alloc (.cells #[.string sS, .string ⟨#[]⟩] 125)).cell? ⟨w.heap.size, 0, none⟩ = some (.string sS) := by
      rw [World.cell?_alloc_lt _ _ _ (by simpa [World.setCell] using hz2), World.cell?_setCell_other _ _ _ _ (by simp)]
      exact World.cell?_setCell_same _ _ _ x0
    have y1 : (((w3.setCell ⟨w.heap.size, 0, none⟩ (.string sS)).setCell ⟨w.heap.size, 1, none⟩ (.string ⟨#[]⟩)).alloc (.cells #[.string sS, .string ⟨#[]⟩] 125)).cell? ⟨w.heap.size, 1, none⟩ = some (.string ⟨#[]⟩) := by
      rw [World.cell?_alloc_lt _ _ _ (by simpa [World.setCell] using hz2)]
      exact World.cell?_setCell_same _ _ _ ((World.cell?_setCell_other _ _ _ _ (by simp)).trans x1)
    have yb : Below w.heap.size w (((w3.setCell ⟨w.heap.size, 0, none⟩ (.string sS)).setCell ⟨w.heap.size, 1, none⟩ (.string ⟨#[]⟩)).alloc (.cells #[.string sS, .string ⟨#[]⟩] 125)) := ((B2'.out.setCell (Nat.le_refl _) _).setCell (Nat.le_refl _) _).alloc (by simp [World.setCell]; omega) _
    generalize ((w3.setCell ⟨w.heap.size, 0, none⟩ (.string sS)).setCell ⟨w.heap.size, 1, none⟩ (.string ⟨#[]⟩)).alloc (.cells #[.string sS, .string ⟨#[]⟩] 125) = W at *
    exact bodyPost_ret (v := sufV sS ⟨#[]⟩) (by simp [sufV, results, Tryz.results130, go_sem, y0, y1]) rfl ⟨by rw [HD.out], yb⟩
  · obtain ⟨e, rfl⟩ : ∃ e, d = e + 1 := ⟨d - 1, by omega⟩
    have q : decide ((c : Int) < (e : Int) + 1 + (c : Int)) = true := by rw [decide_eq_true_iff]; omega
    have hsum : e + 1 + c = e + (c + 1) := by omega
    have KD := fun W (a : SliceS W (w.alloc (.cells #[.string ⟨#[]⟩, .string ⟨#[]⟩] 125)).heap.size (.slice pv (e + 1 + c) cv) (e + 1 + c) h) => specTail_any (.slice pv (e + 1 + c) cv) e (c + 1) _ h W (by rw [← hsum]; exact a) (by omega) (by rw [← hsum]; exact HPP.out)
    have HD : Hid (sD = tailN h e (c + 1)) := by show _ = _; rw [ED.out, if_pos (by omega), show e + 1 + c - (c + 1) = e by omega]
    rw [← HD.out] at KD
    have KD1 : Hid (∀ o, Calls Tryz.prog 149 #[.slice pv (e + 1 + c) cv, .int .i64 ((c : Int) + 1)] (w2.alloc o) fun e w' => e = .returned (.string sD) ∧ w' = w2.alloc o) := fun o => KD _ (SLH.out.below ((Below.refl _ _).alloc (Nat.le_refl _) _))
    clear hd ED KD hsum HPP SLH HD
    go_wp2_with fail
    refine KT1.out.mono ?_
    rintro e w3 ⟨rfl, rfl⟩
    go_wp2_with fail
    refine (KD1.out _).mono ?_
    rintro e w4 ⟨rfl, rfl⟩
    go_wp2
    have y0 : (((w3.setCell ⟨w.heap.size, 0, none⟩ (.string sS)).setCell ⟨w.heap.size, 1, none⟩ (.string sD)).alloc (.cells #[.string sS, .string sD] 125)).cell? ⟨w.heap.size, 0, none⟩ = some (.string sS) := by
      rw [World.cell?_alloc_lt _ _ _ (by simpa [World.setCell] using hz2), World.cell?_setCell_other _ _ _ _ (by simp)]
      exact World.cell?_setCell_same _ _ _ x0
    have y1 : (((w3.setCell ⟨w.heap.size, 0, none⟩ (.string sS)).setCell ⟨w.heap.size, 1, none⟩ (.string sD)).alloc (.cells #[.string sS, .string sD] 125)).cell? ⟨w.heap.size, 1, none⟩ = some (.string sD) := by
      rw [World.cell?_alloc_lt _ _ _ (by simpa [World.setCell] using hz2)]
      exact World.cell?_setCell_same _ _ _ ((World.cell?_setCell_other _ _ _ _ (by simp)).trans x1)
    have yb : Below w.heap.size w (((w3.setCell ⟨w.heap.size, 0, none⟩ (.string sS)).setCell ⟨w.heap.size, 1, none⟩ (.string sD)).alloc (.cells #[.string sS, .string sD] 125)) := ((B2'.out.setCell (Nat.le_refl _) _).setCell (Nat.le_refl _) _).alloc (by simp [World.setCell]; omega) _
    generalize ((w3.setCell ⟨w.heap.size, 0, none⟩ (.string sS)).setCell ⟨w.heap.size, 1, none⟩ (.string sD)).alloc (.cells #[.string sS, .string sD] 125) = W at *
    exact bodyPost_ret (v := sufV sS sD) (by simp [sufV, results, Tryz.results130, go_sem, y0, y1]) rfl ⟨rfl, yb⟩
end Go.Proofs.YtnpaekjiafaahaaGreatDoor

/- The rules apart; the fitting one of most labels begins first; so the suffix's labels are those that the specification counts. -/
namespace Go.Proofs.YtnpaekjiafaahaaGreatDoor

/-- of the first i rules those with an exclamation mark, which is taken off -/
def exL (f : Nat → ByteArray) : Nat → List ByteArray
  | 0 => []
  | i + 1 => if bangB (f i) = true then exL f i ++ [unbang (f i)] else exL f i
/-- the others -/
def otL (f : Nat → ByteArray) : Nat → List ByteArray
  | 0 => []
  | i + 1 => if bangB (f i) = true then otL f i else otL f i ++ [f i]
theorem exL_len (f : Nat → ByteArray) : ∀ i, (exL f i).length ≤ i
  | 0 => Nat.le_refl _
  | i + 1 => by
    have := exL_len f i
    rw [exL]; split
    · simp; omega
    · omega
theorem otL_len (f : Nat → ByteArray) : ∀ i, (otL f i).length ≤ i
  | 0 => Nat.le_refl _
  | i + 1 => by
    have := otL_len f i
    rw [otL]; split
    · omega
    · simp; omega
theorem exL_small {f : Nat → ByteArray} {N : Nat} : ∀ {i}, (∀ j, j < i → (f j).size ≤ N) → ∀ x ∈ exL f i, x.size ≤ N
  | 0, _, x, hx => by cases hx
  | i + 1, h, x, hx => by
    rw [exL] at hx
    split at hx
    · rw [List.mem_append, List.mem_singleton] at hx
      rcases hx with hx | hx
      · exact exL_small (fun j hj => h j (by omega)) x hx
      · rw [hx]; exact Nat.le_trans (unbang_le _) (h i (by omega))
    · exact exL_small (fun j hj => h j (by omega)) x hx
theorem otL_small {f : Nat → ByteArray} {N : Nat} : ∀ {i}, (∀ j, j < i → (f j).size ≤ N) → ∀ x ∈ otL f i, x.size ≤ N
  | 0, _, x, hx => by cases hx
  | i + 1, h, x, hx => by
    rw [otL] at hx
    split at hx
    · exact otL_small (fun j hj => h j (by omega)) x hx
    · rw [List.mem_append, List.mem_singleton] at hx
      rcases hx with hx | hx
      · exact otL_small (fun j hj => h j (by omega)) x hx
      · rw [hx]; exact h i (by omega)

def fitT (s : ByteArray) (m : Nat) (h : Nat → ByteArray) : Bool := fitsB (splitB s 46).length (atL (splitB s 46)) m h
theorem fitT_len {s : ByteArray} {m : Nat} {h : Nat → ByteArray} (e : fitT s m h = true) : (splitB s 46).length ≤ m := by
  unfold fitT fitsB at e
  rw [Bool.and_eq_true, decide_eq_true_eq] at e
  exact e.1
/-- the most labels of a rule of a list that fits; 0 if none does -/
def mxL (m : Nat) (h : Nat → ByteArray) : List ByteArray → Nat
  | [] => 0
  | r :: L => if fitT r m h = true then max (splitB r 46).length (mxL m h L) else mxL m h L
theorem mxL_snoc (m : Nat) (h : Nat → ByteArray) (r : ByteArray) : ∀ L, mxL m h (L ++ [r]) = if fitT r m h = true then max (mxL m h L) (splitB r 46).length else mxL m h L
  | [] => by simp [mxL]
  | x :: L => by
    rw [List.cons_append, mxL, mxL_snoc m h r L, mxL]
    split
    · split
      · rw [Nat.max_assoc]
      · rfl
    · rfl
theorem mxL_le (m : Nat) (h : Nat → ByteArray) : ∀ L, mxL m h L ≤ m
  | [] => Nat.zero_le _
  | r :: L => by
    have ih := mxL_le m h L
    rw [mxL]; split
    · rename_i e
      have := fitT_len e
      omega
    · exact ih
theorem mxL_ge {m : Nat} {h : Nat → ByteArray} {r : ByteArray} (e : fitT r m h = true) : ∀ {L}, r ∈ L → (splitB r 46).length ≤ mxL m h L
  | [], hr => by cases hr
  | x :: L, hr => by
    rw [mxL]
    rcases List.mem_cons.1 hr with hx | hx
    · subst hx; rw [if_pos e]; omega
    · have := mxL_ge e hx
      split <;> omega
theorem mxL_at (m : Nat) (h : Nat → ByteArray) : ∀ L, 0 < mxL m h L → ∃ r ∈ L, fitT r m h = true ∧ (splitB r 46).length = mxL m h L
  | [], h0 => absurd h0 (by simp [mxL])
  | x :: L, h0 => by
    rw [mxL] at h0 ⊢
    split at h0
    · rename_i e
      rw [if_pos e]
      by_cases hc : (splitB x 46).length < mxL m h L
      · obtain ⟨r, hr, hf, hl⟩ := mxL_at m h L (by omega)
        exact ⟨r, by simp [hr], hf, by omega⟩
      · exact ⟨x, by simp, e, by omega⟩
    · rename_i e
      rw [if_neg e]
      obtain ⟨r, hr, hf, hl⟩ := mxL_at m h L h0
      exact ⟨r, by simp [hr], hf, hl⟩
theorem fitR_bang {s : ByteArray} {m : Nat} {h : Nat → ByteArray} (e : bangB s = true) : fitR s m h = fitT (unbang s) m h ∧ (ruleL s).length = (splitB (unbang s) 46).length := by
  have : ruleL s = splitB (unbang s) 46 := by rw [ruleL, if_pos e, unbang_yes e]
  unfold fitR fitT
  rw [this]; exact ⟨rfl, rfl⟩
theorem fitR_plain {s : ByteArray} {m : Nat} {h : Nat → ByteArray} (e : ¬ bangB s = true) : fitR s m h = fitT s m h ∧ (ruleL s).length = (splitB s 46).length := by
  have : ruleL s = splitB s 46 := by rw [ruleL, if_neg e]
  unfold fitR fitT
  rw [this]; exact ⟨rfl, rfl⟩
theorem cntTo_apart (f : Nat → ByteArray) (m : Nat) (h : Nat → ByteArray) : ∀ i, cntTo f m h i = (max 1 (mxL m h (otL f i)), mxL m h (exL f i))
  | 0 => rfl
  | i + 1 => by
    rw [cntTo, cntTo_apart f m h i, otL, exL]
    by_cases hb : bangB (f i) = true
    · rw [if_pos hb, if_pos hb, if_pos hb, mxL_snoc, (fitR_bang hb).1, (fitR_bang hb (m := m) (h := h)).2]
      split <;> rfl
    · rw [if_neg hb, if_neg hb, if_neg hb, mxL_snoc, (fitR_plain hb).1, (fitR_plain hb (m := m) (h := h)).2]
      split
      · rw [Nat.max_assoc]
      · rfl
/-- with which of the m labels the fitting rule of most labels begins; m, if none fits -/
def longN (L : List ByteArray) (m : Nat) (h : Nat → ByteArray) : Nat := m - mxL m h L
theorem fitK_fitT {s : ByteArray} {k m : Nat} {h : Nat → ByteArray} (e : fitK s k m h = true) : fitT s m h = true ∧ (splitB s 46).length + k = m := by
  unfold fitK at e
  rw [Bool.and_eq_true, decide_eq_true_eq] at e
  exact ⟨e.2, e.1⟩
theorem longN_hit {L : List ByteArray} {m : Nat} {h : Nat → ByteArray} {k : Nat} {r : ByteArray} (hlow : ∀ j, j < k → ∀ x ∈ L, fitK x j m h = false) (hr : r ∈ L) (he : fitK r k m h = true) : longN L m h = k := by
  obtain ⟨hf, hl⟩ := fitK_fitT he
  have h1 := mxL_ge hf hr
  have h2 := mxL_le m h L
  unfold longN
  by_cases hlt : m - mxL m h L < k
  · obtain ⟨n0, hn0⟩ := splitB_ne r 46
    obtain ⟨x, hx, hfx, hlx⟩ := mxL_at m h L (by omega)
    have := hlow (m - mxL m h L) hlt x hx
    rw [fitK, decide_eq_true (by omega), Bool.true_and] at this
    unfold fitT at hfx
    rw [hfx] at this; cases this
  · omega
theorem longN_none {L : List ByteArray} {m : Nat} {h : Nat → ByteArray} (hlow : ∀ j, j < m → ∀ x ∈ L, fitK x j m h = false) : longN L m h = m := by
  have h2 := mxL_le m h L
  unfold longN
  by_cases h0 : 0 < mxL m h L
  · obtain ⟨x, hx, hfx, hlx⟩ := mxL_at m h L h0
    have := hlow (m - mxL m h L) (by omega) x hx
    rw [fitK, decide_eq_true (by omega), Bool.true_and] at this
    unfold fitT at hfx
    rw [hfx] at this; cases this
  · omega
theorem longN_le (L : List ByteArray) (m : Nat) (h : Nat → ByteArray) : longN L m h ≤ m := Nat.sub_le _ _
/-- where the suffix begins -/
def beginN (n : Nat) (f : Nat → ByteArray) (m : Nat) (h : Nat → ByteArray) : Nat := if longN (exL f n) m h < m then longN (exL f n) m h + 1 else min (longN (otL f n) m h) (m - 1)
theorem beginN_count (n : Nat) (f : Nat → ByteArray) {m : Nat} (h : Nat → ByteArray) (hm : 1 ≤ m) : beginN n f m h = m - countN n f m h ∧ beginN n f m h ≤ m := by
  have h1 := mxL_le m h (exL f n)
  have h2 := mxL_le m h (otL f n)
  unfold beginN countN longN
  rw [cntTo_apart]
  simp only
  by_cases h0 : 0 < mxL m h (exL f n)
  · rw [if_pos (by omega), if_pos h0]; omega
  · rw [if_neg (by omega), if_neg h0]; omega
end Go.Proofs.YtnpaekjiafaahaaGreatDoor

/- The walk of the program's longestFit. -/
namespace Go.Proofs.YtnpaekjiafaahaaGreatDoor
open Go.RowKit

set_option maxRecDepth 10000 in
set_option maxHeartbeats 2000000 in
theorem longest_any (v1 v2 : Value) (B1 B2 m : Nat) (L : List ByteArray) (h : Nat → ByteArray) (w : World) (hG : MaxI w) (h1 : SliceS w B1 v1 L.length (atL L)) (h2 : SliceS w B2 v2 m h) (l1 : L.length ≤ 1048576) (l2 : m ≤ 1048576) (hL : ∀ x ∈ L, x.size ≤ 1048576) :
    Calls Tryz.prog 144 #[v1, v2] w fun e w' => e = .returned (.int .i64 (longN L m h : Nat)) ∧ Below w.heap.size w w' := by
  have H2 : Hid (SliceS w B2 v2 m h) := h2
  obtain ⟨p1, c1, rfl, g1⟩ := h1
  have G1 : Hid (0 < L.length → ∃ g, p1 = some ⟨g, 0, none⟩ ∧ B1 ≤ g ∧ g < w.heap.size ∧ ∀ j, j < L.length → w.cell? ⟨g, j, none⟩ = some (.string (atL L j)) ∧ w.frozen? ⟨g, j, none⟩ = false) := g1
  obtain ⟨p2, c2, rfl, -⟩ := h2
  have HG : Hid (MaxI w) := hG
  have HH : Hid (∀ k r, (∀ j, j < k → ∀ x ∈ L, fitK x j m h = false) → r ∈ L → fitK r k m h = true → longN L m h = k) := fun k r a b c => longN_hit a b c
  have HN : Hid ((∀ j, j < m → ∀ x ∈ L, fitK x j m h = false) → longN L m h = m) := fun a => longN_none a
  have HM : Hid (∀ i, i < L.length → atL L i ∈ L) := fun i hi => by
    have : atL L i = L[i] := by simp [atL, hi]
    rw [this]; exact List.getElem_mem hi
  have HI : Hid (∀ x ∈ L, ∃ i, i < L.length ∧ x = atL L i) := fun x hx => by
    obtain ⟨i, hi, e⟩ := List.getElem_of_mem hx
    exact ⟨i, hi, by simp [atL, hi, e]⟩
  have HF : Hid (∀ (i k b : Nat) (W : World), i < L.length → k ≤ m → MaxI W → b < W.heap.size → W.cell? ⟨b, 0, none⟩ = some (.slice p2 m c2) → SliceS W B2 (.slice p2 m c2) m h →
      Calls Tryz.prog 159 #[.string (atL L i), .int .i64 k, .pointer (some ⟨b, 0, none⟩)] W fun e w' => e = .returned (.bool (fitK (atL L i) k m h)) ∧ Below W.heap.size W w') :=
    fun i k b W hi hk hM hb hc hs => fit_any (atL L i) k m b B2 _ h W hM (hL _ (HM.out i hi)) hb hc hs hk l2
  have hmf : ∀ (fn : Fn) (first cap : Array Value) (w : World), (Instr.makeFunc fn first cap).run Tryz.prog w = .ok (.func fn first cap) w := fun _ _ _ _ => rfl
  clear g1 hG hL
  generalize longN L m h = R at *
  generalize atL L = f at *
  go_enter Tryz.func144, Tryz.ntmps144
  go_wp2
  go_step3
  go_wp2
  go_step3
  go_wp2
  have hb0 : Below w.heap.size w (w.alloc (.cells #[.slice p2 m c2] 31)) := (Below.refl _ _).alloc (Nat.le_refl _) _
  have hz0 : w.heap.size < (w.alloc (.cells #[.slice p2 m c2] 31)).heap.size := by simp
  have hc0 : (w.alloc (.cells #[.slice p2 m c2] 31)).cell? ⟨w.heap.size, 0, none⟩ = some (.slice p2 m c2) := by simp
  have HB0 : Hid (Below w.heap.size w (w.alloc (.cells #[.slice p2 m c2] 31))) := hb0
  clear hb0
  generalize w.alloc (.cells #[.slice p2 m c2] 31) = w0 at *
  go_loopg [6, 15] m (fun g s6 s15 wx => ∃ k : Nat, k + g = m ∧ s6 = .int .i64 m ∧ s15 = .int .i64 k ∧ Hid (Below w0.heap.size w0 wx) ∧ Hid (∀ j, j < k → ∀ x ∈ L, fitK x j m h = false))
  case atStart => exact ⟨0, by omega, rfl, rfl, Below.refl _ _, fun j hj => absurd hj (by omega)⟩
  case round =>
    obtain ⟨k, hkg, rfl, rfl, HB, HK⟩ := hrel
    cases gk with
    | zero =>
      have hkz : ¬ ((k : Int) < (m : Int)) := by omega
      have HQ : Hid (R = m) := HN.out (fun j hj => HK.out j (by omega))
      go_wp2
      try rw [Exit.noGoto_ret]
      go_ret
      exact ⟨ret_int (by rw [HQ.out]), HB0.out.trans (HB.out.mono HB0.out.size)⟩
    | succ g =>
      have hkz : (k : Int) < (m : Int) := by omega
      go_wp2
      go_loopg [6, 20] L.length (fun g2 s6 s20 wy => ∃ i : Nat, i + g2 = L.length ∧ s6 = .int .i64 m ∧ s20 = .int .i64 i ∧ Hid (Below w0.heap.size w0 wy) ∧ Hid (∀ j, j < i → fitK (f j) k m h = false))
      case atStart => exact ⟨0, by omega, rfl, rfl, HB, fun j hj => absurd hj (by omega)⟩
      case round =>
        obtain ⟨i, hig, rfl, rfl, HB2, HJ⟩ := hrel
        cases gk with
        | zero =>
          have hiz : ¬ ((i : Int) < (L.length : Int)) := by omega
          go_wp2
          go_roundg g
          case measure => omega
          case rel =>
            refine ⟨k + 1, by omega, rfl, by go_num, HB2, ?_⟩
            intro j hj x hx
            by_cases e : j = k
            · subst e
              obtain ⟨i', hi', rfl⟩ := HI.out x hx
              exact HJ.out i' (by omega)
            · exact HK.out j (by omega) x hx
        | succ g2 =>
          have hiz : (i : Int) < (L.length : Int) := by omega
          have hiz0 : (0 : Int) ≤ (i : Int) := by omega
          obtain ⟨g1, rfl, -, hg1, hc1⟩ := G1.out (by omega)
          have B2' : Below w.heap.size w wr := HB0.out.trans (HB2.out.mono HB0.out.size)
          have d1 : wr.cell? ⟨g1, i, none⟩ = some (.string (f i)) := by rw [(bcell B2').1 _ _ hg1]; exact (hc1 i (by omega)).1
          have d2 : wr.cell? ⟨w.heap.size, 0, none⟩ = some (.slice p2 m c2) := by rw [(bcell HB2.out).1 _ _ hz0]; exact hc0
          have KF0 := HF.out i k w.heap.size wr (by omega) (by omega) (HG.out.on B2') (by have := HB2.out.size; omega) d2 (H2.out.below B2')
          clear hc1 B2'
          cases hfit : fitK (f i) k m h with
          | true =>
            have HQ : Hid (R = k) := HH.out k (f i) HK.out (HM.out i (by omega)) hfit
            rw [hfit] at KF0
            have KF : Hid (Calls Tryz.prog 159 #[.string (f i), .int .i64 k, .pointer (some ⟨w.heap.size, 0, none⟩)] wr fun e w' => e = .returned (.bool true) ∧ Below wr.heap.size wr w') := KF0
            clear KF0 hfit
            generalize f i = t at *
            go_wp2_with (go_at_call 159; refine KF.out.mono ?_; rintro e w3 ⟨rfl, hb3⟩)
            try rw [Exit.noGoto_ret]
            go_ret
            exact ⟨ret_int (by rw [HQ.out]), HB0.out.trans ((HB2.out.trans (hb3.mono HB2.out.size)).mono HB0.out.size)⟩
          | false =>
            have HQ : Hid (fitK (f i) k m h = false) := hfit
            rw [hfit] at KF0
            have KF : Hid (Calls Tryz.prog 159 #[.string (f i), .int .i64 k, .pointer (some ⟨w.heap.size, 0, none⟩)] wr fun e w' => e = .returned (.bool false) ∧ Below wr.heap.size wr w') := KF0
            clear KF0 hfit
            generalize hx : f i = t at *
            have HX : Hid (f i = t) := hx
            clear hx
            go_wp2_with (go_at_call 159; refine KF.out.mono ?_; rintro e w3 ⟨rfl, hb3⟩)
            go_roundg g2
            case measure => omega
            case rel =>
              refine ⟨i + 1, by omega, rfl, by go_num, HB2.out.trans (hb3.mono HB2.out.size), ?_⟩
              intro j hj
              by_cases e : j = i
              · subst e; rw [HX.out]; exact HQ.out
              · exact HJ.out j (by omega)
end Go.Proofs.YtnpaekjiafaahaaGreatDoor

/- The walk of the program's RuleRight. -/
namespace Go.Proofs.YtnpaekjiafaahaaGreatDoor
open Go.RowKit

theorem cutBang_call (s : ByteArray) (w : World) :
    Calls Tryz.prog 118 #[.string s, .string ⟨#[33]⟩] w fun e w' => e = .returned (.tuple #[.string (unbang s), .bool (bangB s)]) ∧ w' = w := by
  have h := Any.strings_CutPrefix Tryz.lays103 s ⟨#[33]⟩ w
  rw [bangB_lib]
  exact h
theorem trimStar_call (s : ByteArray) (w : World) :
    Calls Tryz.prog 120 #[.string s, .string ⟨#[42, 46]⟩] w fun e w' => e = .returned (.string (unstar s)) ∧ w' = w :=
  Any.strings_TrimPrefix Tryz.lays101 s ⟨#[42, 46]⟩ w
theorem hasPoint_call (s : ByteArray) (w : World) :
    Calls Tryz.prog 119 #[.string s, .string ⟨#[46]⟩] w fun e w' => e = .returned (.bool (decide (0 ≤ Lib.indexByte s.data.toList 46))) ∧ w' = w :=
  Any.strings_Contains_one Tryz.lays144 s 46 w

set_option maxRecDepth 10000 in
set_option maxHeartbeats 400000 in
theorem ruleRight_any (s : ByteArray) (w : World) (hG : MaxI w) (hs : s.size ≤ 1048576) :
    Calls Tryz.prog 94 #[.string s] w fun e w' => e = .returned (.bool (ruleB s)) ∧ Below w.heap.size w w' := by
  have HC : Hid (∀ W, Calls Tryz.prog 118 #[.string s, .string ⟨#[33]⟩] W fun e w' => e = .returned (.tuple #[.string (unbang s), .bool (bangB s)]) ∧ w' = W) := fun W => cutBang_call s W
  cases hb : bangB s with
  | true =>
    have HR : Hid (ruleB s = (hostB (unbang s) && decide (0 ≤ Lib.indexByte (unbang s).data.toList 46))) := ruleB_yes hb
    rw [hb] at HC
    have hz := unbang_le s
    have HH : Hid (Calls Tryz.prog 116 #[.string (unbang s)] w fun e w' => e = .returned (.bool (hostB (unbang s))) ∧ Below w.heap.size w w') := hostRight_any (unbang s) w hG (by omega)
    have HP : Hid (∀ W, Calls Tryz.prog 119 #[.string (unbang s), .string ⟨#[46]⟩] W fun e w' => e = .returned (.bool (decide (0 ≤ Lib.indexByte (unbang s).data.toList 46))) ∧ w' = W) := fun W => hasPoint_call (unbang s) W
    clear hb hG hz
    generalize decide (0 ≤ Lib.indexByte (unbang s).data.toList 46) = p at *
    generalize hostB (unbang s) = b at *
    generalize unbang s = u at *
    cases b with
    | false =>
      go_enter Tryz.func94, Tryz.ntmps94
      go_wp2_with (first | (go_at_call 118; refine (HC.out _).mono ?_; rintro e w1 ⟨rfl, rfl⟩) | (go_at_call 116; refine HH.out.mono ?_; rintro e w2 ⟨rfl, hb2⟩))
      go_ret
      exact ⟨ret_bool (by rw [HR.out]; rfl), hb2⟩
    | true =>
      go_enter Tryz.func94, Tryz.ntmps94
      go_wp2_with (first | (go_at_call 118; refine (HC.out _).mono ?_; rintro e w1 ⟨rfl, rfl⟩) | (go_at_call 116; refine HH.out.mono ?_; rintro e w2 ⟨rfl, hb2⟩) | (go_at_call 119; refine (HP.out _).mono ?_; rintro e w3 ⟨rfl, rfl⟩))
      go_ret
      exact ⟨ret_bool (by rw [HR.out]; rfl), hb2⟩
  | false =>
    have HR : Hid (ruleB s = hostB (unstar s)) := ruleB_no hb
    rw [hb] at HC
    have hz := unstar_le s
    have HH : Hid (Calls Tryz.prog 116 #[.string (unstar s)] w fun e w' => e = .returned (.bool (hostB (unstar s))) ∧ Below w.heap.size w w') := hostRight_any (unstar s) w hG (by omega)
    have HP : Hid (∀ W, Calls Tryz.prog 120 #[.string s, .string ⟨#[42, 46]⟩] W fun e w' => e = .returned (.string (unstar s)) ∧ w' = W) := fun W => trimStar_call s W
    clear hb hG hz
    generalize hostB (unstar s) = b at *
    generalize unstar s = u at *
    go_enter Tryz.func94, Tryz.ntmps94
    go_wp2_with (first | (go_at_call 118; refine (HC.out _).mono ?_; rintro e w1 ⟨rfl, rfl⟩) | (go_at_call 116; refine HH.out.mono ?_; rintro e w2 ⟨rfl, hb2⟩) | (go_at_call 120; refine (HP.out _).mono ?_; rintro e w3 ⟨rfl, rfl⟩))
    go_ret
    exact ⟨ret_bool (by rw [HR.out]), hb2⟩
end Go.Proofs.YtnpaekjiafaahaaGreatDoor

/- The walk of the program's rulesApart. -/
namespace Go.Proofs.YtnpaekjiafaahaaGreatDoor
open Go.RowKit

/-- two slices lie in two rows -/
def Apart (u v : Value) : Prop := ∀ b, u.ownBlock = some b → ¬ v.ownBlock = some b
theorem own_kept {w w' : World} {base n size : Nat} {e : TypeId} {v : Value} {xs : List Value} {row : Option Nat} (h : w.ownsRow base e size v n xs) (hg : w.grownBy w' row) (hne : ∀ b, v.ownBlock = some b → ¬ row = some b) : w'.ownsRow base e size v n xs := by
  obtain ⟨hl, ⟨rfl, h0⟩ | ⟨g, cap, cur, rfl, hb, hh, r⟩⟩ := h
  · exact ⟨hl, .inl ⟨rfl, h0⟩⟩
  · refine ⟨hl, .inr ⟨g, cap, cur, rfl, hb, ?_, r⟩⟩
    rw [hg.block g (Array.getElem?_eq_some_iff.mp hh).1 (fun e => hne g rfl (by simpa using e.symm))]
    exact hh
theorem own_lt {w : World} {base n size : Nat} {e : TypeId} {v : Value} {xs : List Value} (h : w.ownsRow base e size v n xs) : ∀ b, v.ownBlock = some b → b < w.heap.size := by
  intro b hb
  obtain ⟨hl, ⟨rfl, h0⟩ | ⟨g, cap, cur, rfl, _, hh, r⟩⟩ := h
  · cases hb
  · obtain rfl : g = b := by simpa [Value.ownBlock] using hb
    exact (Array.getElem?_eq_some_iff.mp hh).1
theorem Apart.symm {u v : Value} (h : Apart u v) : Apart v u := fun b hb hc => h b hc hb
theorem Apart.step {u u' v : Value} {k : Nat} (h : Apart u v) (hat : u'.ownBlock = u.ownBlock ∨ u'.ownBlock = some k) (hv : ∀ b, v.ownBlock = some b → b < k) : Apart u' v := by
  intro b hb hc
  rcases hat with e | e
  · rw [e] at hb; exact h b hb hc
  · rw [e] at hb
    obtain rfl := Option.some.inj hb
    exact absurd (hv _ hc) (by omega)

set_option maxRecDepth 10000 in
set_option maxHeartbeats 2000000 in
theorem apart_any (v : Value) (n B : Nat) (f : Nat → ByteArray) (w : World) (hs : SliceS w B v n f) (hn : n ≤ 1048576) :
    Calls Tryz.prog 143 #[v] w fun e w' => ∃ ve vo, e = .returned (.tuple #[ve, vo]) ∧ SliceS w' w.heap.size ve (exL f n).length (atL (exL f n)) ∧ SliceS w' w.heap.size vo (otL f n).length (atL (otL f n)) ∧ Below w.heap.size w w' := by
  obtain ⟨i0, hi, hz0, hz1, hz2⟩ := info_parts infoStr
  obtain ⟨p, cap, rfl, hg⟩ := hs
  have HG : Hid (0 < n → ∃ g, p = some ⟨g, 0, none⟩ ∧ B ≤ g ∧ g < w.heap.size ∧ ∀ j, j < n → w.cell? ⟨g, j, none⟩ = some (.string (f j)) ∧ w.frozen? ⟨g, j, none⟩ = false) := hg
  clear hg
  go_enter Tryz.func143, Tryz.ntmps143
  go_wp2
  go_loopw [2, 3, 10] (fun ve vo i wr => ∃ k : Nat, k ≤ n ∧ i = .int .i64 k ∧ Hid (wr.ownsRow w.heap.size 9 1 ve (exL f k).length (strCells (exL f k))) ∧ Hid (wr.ownsRow w.heap.size 9 1 vo (otL f k).length (strCells (otL f k))) ∧ Hid (Apart ve vo) ∧ Hid (Below w.heap.size w wr)) (fun _ _ i _ => n - (intOf i).toNat)
  case atStart => exact ⟨0, Nat.zero_le _, rfl, World.ownsRow_nil _ _ _ _, World.ownsRow_nil _ _ _ _, (fun b hb => by simp [Value.ownBlock] at hb : Apart _ _), Below.refl _ _⟩
  case round =>
    obtain ⟨k, hk, rfl, HE, HO, HA, HB⟩ := hrel
    by_cases hlt : k < n
    · obtain ⟨g, rfl, -, hgw, hc⟩ := HG.out (by omega)
      have hck : wr.cell? ⟨g, k, none⟩ = some (.string (f k)) := by rw [(bcell HB.out).1 _ _ hgw]; exact (hc k hlt).1
      have KC0 := fun W => cutBang_call (f k) W
      have k0 : (0 : Int) ≤ k := by omega
      have k1 : (k : Int) < n := by omega
      have hbs := HB.out.size
      have hle := exL_len f k
      have hlo := otL_len f k
      clear hc
      cases hb : bangB (f k) with
      | true =>
        rw [hb] at KC0
        have KC : Hid (∀ W, Calls Tryz.prog 118 #[.string (f k), .string ⟨#[33]⟩] W fun e w' => e = .returned (.tuple #[.string (unbang (f k)), .bool true]) ∧ w' = W) := KC0
        have HE1 : Hid (exL f (k + 1) = exL f k ++ [unbang (f k)]) := by show _ = _; rw [exL, if_pos hb]
        have HO1 : Hid (otL f (k + 1) = otL f k) := by show _ = _; rw [otL, if_pos hb]
        clear KC0 hb
        generalize f k = t at *
        generalize unbang t = u at *
        go_wp2_with (first | (go_at_call 118; refine (KC.out _).mono ?_; rintro e w1 ⟨rfl, rfl⟩) | (at_builtin; go_must (refine wpList_append_own_at _ rfl _ _ 31 rfl w.heap.size 9 i0 (.string ⟨#[]⟩) 1 16 Tryz.underlying31 hi hz0 hz1 hz2 rfl (by decide) _ _ _ rfl (HE.out.alloc _) ⟨w1.heap.size, 0, none⟩ 1 1 [.string u] rfl rfl (cell_one_new _ _ _) (by intro u hu; simp at hu; subst hu; rfl) (by unfold maxLen; omega) (by omega) (by simp; omega) ?_)))
        intro v' w2 hown3 hgrow _ hat
        rw [strCells_snoc] at hown3
        have hb2 : Below w.heap.size w w2 := (HB.out.alloc hbs _).grown hgrow (by simp; omega) (fun j hj => (HE.out.lt j hj).1)
        have hO2 := own_kept (HO.out.alloc (.cells #[.string u] 9)) hgrow HA.out.symm
        have hA2 := HA.out.step hat (fun b hb => by have := own_lt HO.out b hb; simp; omega)
        have G1 : Hid (w2.ownsRow w.heap.size 9 1 v' (exL f k ++ [u]).length (strCells (exL f k ++ [u]))) := by show World.ownsRow _ _ _ _ _ _ _; simpa using hown3
        have G2 : Hid (w2.ownsRow w.heap.size 9 1 u3 (otL f k).length (strCells (otL f k))) := hO2
        have G3 : Hid (Apart v' u3) := hA2
        have G4 : Hid (Below w.heap.size w w2) := hb2
        clear hown3 hgrow hat hb2 hO2 hA2
        go_wp2
        go_roundw
        case rel => exact ⟨k + 1, by omega, by go_num, by rw [HE1.out]; exact G1, by rw [HO1.out]; exact G2, G3, G4⟩
        case measure => simp [intOf]; omega
      | false =>
        rw [hb] at KC0
        have KC : Hid (∀ W, Calls Tryz.prog 118 #[.string (f k), .string ⟨#[33]⟩] W fun e w' => e = .returned (.tuple #[.string (unbang (f k)), .bool false]) ∧ w' = W) := KC0
        have HE1 : Hid (exL f (k + 1) = exL f k) := by show _ = _; rw [exL, if_neg (by rw [hb]; decide)]
        have HO1 : Hid (otL f (k + 1) = otL f k ++ [f k]) := by show _ = _; rw [otL, if_neg (by rw [hb]; decide)]
        clear KC0 hb
        generalize f k = t at *
        generalize unbang t = u at *
        go_wp2_with (first | (go_at_call 118; refine (KC.out _).mono ?_; rintro e w1 ⟨rfl, rfl⟩) | (at_builtin; go_must (refine wpList_append_own_at _ rfl _ _ 31 rfl w.heap.size 9 i0 (.string ⟨#[]⟩) 1 16 Tryz.underlying31 hi hz0 hz1 hz2 rfl (by decide) _ _ _ rfl (HO.out.alloc _) ⟨w1.heap.size, 0, none⟩ 1 1 [.string t] rfl rfl (cell_one_new _ _ _) (by intro u hu; simp at hu; subst hu; rfl) (by unfold maxLen; omega) (by omega) (by simp; omega) ?_)))
        intro v' w2 hown3 hgrow _ hat
        rw [strCells_snoc] at hown3
        have hb2 : Below w.heap.size w w2 := (HB.out.alloc hbs _).grown hgrow (by simp; omega) (fun j hj => (HO.out.lt j hj).1)
        have hE2 := own_kept (HE.out.alloc (.cells #[.string t] 9)) hgrow HA.out
        have hA2 := (HA.out.symm.step hat (fun b hb => by have := own_lt HE.out b hb; simp; omega)).symm
        have G1 : Hid (w2.ownsRow w.heap.size 9 1 v' (otL f k ++ [t]).length (strCells (otL f k ++ [t]))) := by show World.ownsRow _ _ _ _ _ _ _; simpa using hown3
        have G2 : Hid (w2.ownsRow w.heap.size 9 1 u2 (exL f k).length (strCells (exL f k))) := hE2
        have G3 : Hid (Apart u2 v') := hA2
        have G4 : Hid (Below w.heap.size w w2) := hb2
        clear hown3 hgrow hat hb2 hE2 hA2
        go_wp2
        go_roundw
        case rel => exact ⟨k + 1, by omega, by go_num, by rw [HE1.out]; exact G2, by rw [HO1.out]; exact G1, G3, G4⟩
        case measure => simp [intOf]; omega
    · obtain rfl : k = n := by omega
      go_wp2
      go_ret2
      exact ⟨_, _, rfl, slice_of_own HE.out, slice_of_own HO.out, HB.out⟩
end Go.Proofs.YtnpaekjiafaahaaGreatDoor

/- The walk of the program's suffixBegin. -/
namespace Go.Proofs.YtnpaekjiafaahaaGreatDoor
open Go.RowKit

theorem atL_mem {L : List ByteArray} : ∀ x ∈ L, ∃ i, i < L.length ∧ x = atL L i := fun x hx => by
  obtain ⟨i, hi, e⟩ := List.getElem_of_mem hx
  exact ⟨i, hi, by simp [atL, hi, e]⟩
set_option maxRecDepth 10000 in
set_option maxHeartbeats 1000000 in
theorem begin_any (v1 v2 : Value) (n m B1 B2 : Nat) (f h : Nat → ByteArray) (w : World) (hG : MaxI w) (h1 : SliceS w B1 v1 n f) (h2 : SliceS w B2 v2 m h) (l1 : n ≤ 1048576) (l2 : m ≤ 1048576) (hm : 1 ≤ m) (hf : ∀ i, i < n → (f i).size ≤ 1048576) :
    Calls Tryz.prog 126 #[v1, v2] w fun e w' => e = .returned (.int .i64 (beginN n f m h : Nat)) ∧ Below w.heap.size w w' := by
  have H2 : Hid (SliceS w B2 v2 m h) := h2
  have HG : Hid (MaxI w) := hG
  have KA : Hid (Calls Tryz.prog 143 #[v1] w fun e w' => ∃ ve vo, e = .returned (.tuple #[ve, vo]) ∧ SliceS w' w.heap.size ve (exL f n).length (atL (exL f n)) ∧ SliceS w' w.heap.size vo (otL f n).length (atL (otL f n)) ∧ Below w.heap.size w w') := apart_any v1 n B1 f w h1 l1
  have e1 := exL_len f n
  have e2 := otL_len f n
  have KL : Hid (∀ (v : Value) (B : Nat) (W : World), MaxI W → SliceS W B v (exL f n).length (atL (exL f n)) → SliceS W B2 v2 m h → Calls Tryz.prog 144 #[v, v2] W fun e w' => e = .returned (.int .i64 (longN (exL f n) m h : Nat)) ∧ Below W.heap.size W w') :=
    fun v B W a b c => longest_any v v2 B B2 m (exL f n) h W a b c (by omega) l2 (exL_small hf)
  have KO : Hid (∀ (v : Value) (B : Nat) (W : World), MaxI W → SliceS W B v (otL f n).length (atL (otL f n)) → SliceS W B2 v2 m h → Calls Tryz.prog 144 #[v, v2] W fun e w' => e = .returned (.int .i64 (longN (otL f n) m h : Nat)) ∧ Below W.heap.size W w') :=
    fun v B W a b c => longest_any v v2 B B2 m (otL f n) h W a b c (by omega) l2 (otL_small hf)
  have b1 := longN_le (exL f n) m h
  have b2 := longN_le (otL f n) m h
  have EB : Hid (beginN n f m h = if longN (exL f n) m h < m then longN (exL f n) m h + 1 else min (longN (otL f n) m h) (m - 1)) := rfl
  obtain ⟨p2, c2, rfl, -⟩ := h2
  clear hG h1 hf e1 e2
  generalize beginN n f m h = R at *
  generalize longN (exL f n) m h = x at *
  generalize longN (otL f n) m h = y at *
  go_enter Tryz.func126, Tryz.ntmps126
  go_wp2_with fail
  refine KA.out.mono ?_
  rintro e w1 ⟨ve, vo, rfl, se, so, hb1⟩
  have SO : Hid (SliceS w1 w.heap.size vo (otL f n).length (atL (otL f n))) := so
  have SE : Hid (SliceS w1 w.heap.size ve (exL f n).length (atL (exL f n))) := se
  have B1' : Hid (Below w.heap.size w w1) := hb1
  clear se so hb1
  go_wp2_with fail
  refine (KL.out ve _ w1 (HG.out.on B1'.out) SE.out (H2.out.below B1'.out)).mono ?_
  rintro e w2 ⟨rfl, hb2⟩
  have SO2 : Hid (SliceS w2 w.heap.size vo (otL f n).length (atL (otL f n))) := SO.out.below hb2
  have B2' : Hid (Below w.heap.size w w2) := B1'.out.trans (hb2.mono B1'.out.size)
  clear hb2 SO SE
  by_cases hx : x < m
  · have HQ : Hid (R = x + 1) := by show _ = _; rw [EB.out, if_pos hx]
    go_wp2
    go_ret
    exact ⟨ret_int (by rw [HQ.out]; omega), B2'.out⟩
  · have HQ : Hid (R = min y (m - 1)) := by show _ = _; rw [EB.out, if_neg hx]
    have KO2 := KO.out vo _ w2 (HG.out.on B2'.out) SO2.out (H2.out.below B2'.out)
    go_wp2_with fail
    refine KO2.mono ?_
    rintro e w3 ⟨rfl, hb3⟩
    clear KO2
    go_wp2
    go_ret
    exact ⟨ret_int (by rw [HQ.out]; omega), B2'.out.trans (hb3.mono B2'.out.size)⟩
end Go.Proofs.YtnpaekjiafaahaaGreatDoor

/- The walk of the specification's LabelsOf. -/
namespace Go.Proofs.YtnpaekjiafaahaaGreatDoor
open Go.RowKit

end Go.Proofs.YtnpaekjiafaahaaGreatDoor

/- The law FnExactLabelsOf, walked, over what the program's LabelsOf answers. -/
namespace Go.Proofs.YtnpaekjiafaahaaGreatDoor
open Go.RowKit

/-- a right host's labels, else none -/
def labelsL (s : ByteArray) : List ByteArray := if hostB s = true then splitB s 46 else []
theorem labelsL_len (s : ByteArray) : (labelsL s).length ≤ 101 := by
  unfold labelsL
  split
  · rename_i h
    have hsz : s.size ≤ 100 := by
      by_cases hz : 100 < s.size
      · rw [hostB_size hz] at h; cases h
      · omega
    have := splitB_len s 46
    omega
  · simp

theorem SliceS.far {w w' : World} {B n : Nat} {v : Value} {f : Nat → ByteArray} {K : Nat} (h : SliceS w B v n f) (hK : w.heap.size ≤ K) {u : World} (hs : SliceS u B v n f) (hb : Below K u w') : SliceS w' B v n f := by
  cases n with
  | zero =>
    obtain ⟨p, cap, rfl, h⟩ := hs
    exact ⟨p, cap, rfl, fun h => absurd h (by omega)⟩
  | succ n => exact hs.kept hb (fun g cap m e => Nat.lt_of_lt_of_le (h.lt g cap m e) hK)

end Go.Proofs.YtnpaekjiafaahaaGreatDoor

/- The walk of together: two texts put together in new memory. -/
namespace Go.Proofs.YtnpaekjiafaahaaGreatDoor
open Go.RowKit


set_option maxRecDepth 10000 in
set_option maxHeartbeats 400000 in
theorem together_full (x y : ByteArray) (w : World) (hz : x.size + y.size ≤ 1000000) (hy : ¬ y = ByteArray.empty) :
    Calls Tryz.prog 90 #[.string x, .string y] w fun e w' => e = .returned (.string (x ++ y)) ∧ Below w.heap.size w w' := by
  obtain ⟨w1, Z, hmk, HG1, hZ, hs1, hb1⟩ := make_row (P := Tryz.prog) w 22 5 _ Tryz.underlying22 infoU8 ((x.size : Int) + (y.size : Int)) (x.size + y.size) (by omega) (by omega)
  go_enter Tryz.func90, Tryz.ntmps90
  go_wp2_with fail
  obtain ⟨w2, hc2, HG2, hs2, hB2⟩ := copy_text (P := Tryz.prog) w1 22 9 3 5 Tryz.underlying22 sizeU8 (some ⟨w.heap.size, 0, none⟩) (x.size + y.size) (x.size + y.size) x (by omega) w.heap.size 0 Z _ HG1 (fun _ => rfl) (by omega)
  have hb2 := hB2 _ _ hb1 (Nat.le_refl _)
  rw [hc2]
  clear hc2 hmk hB2 HG1 hb1
  go_wp2_with fail
  have hl2 : (splice Z 0 (Lib.byteCells x.data.toList)).length = x.size + y.size := by rw [length_splice _ _ _ (by rw [len_cells]; omega), hZ]
  obtain ⟨w3, hc3, HG3, hs3, hB3⟩ := copy_text (P := Tryz.prog) w2 22 9 3 5 Tryz.underlying22 sizeU8 (some ⟨w.heap.size, x.size, none⟩) y.size y.size y (by omega) w.heap.size x.size _ _ HG2 (fun _ => rfl) (by omega)
  have hb3 := hB3 _ _ hb2 (Nat.le_refl _)
  have HG4 : RowAt w3 w.heap.size 5 (Lib.byteCells (x.data.toList ++ y.data.toList) ++ []) := by
    have e := splice_two Z (Lib.byteCells x.data.toList) (Lib.byteCells y.data.toList) (by rw [len_cells, len_cells]; exact hZ)
    rw [len_cells] at e
    rw [e, ← byteCells_append, ← List.append_nil (Lib.byteCells _)] at HG3
    exact HG3
  rw [hc3]
  clear hc3 hB3 HG2 HG3 hb2 hl2
  go_wp2_with fail
  rw [text_of_row (P := Tryz.prog) w3 22 9 5 Tryz.underlying22 Tryz.underlying5 Tryz.underlying9 w.heap.size (x.size + y.size) (x.size + y.size) 5 _ _ HG4 (by rw [List.length_append, ← Lib.size_eq, ← Lib.size_eq])]
  go_wp2
  go_ret
  exact ⟨ret_text (text_append x y), hb3⟩

set_option maxRecDepth 10000 in
set_option maxHeartbeats 400000 in
theorem together_empty (x : ByteArray) (w : World) (hz : x.size ≤ 1000000) :
    Calls Tryz.prog 90 #[.string x, .string ByteArray.empty] w fun e w' => e = .returned (.string x) ∧ Below w.heap.size w w' := by
  obtain ⟨w1, Z, hmk, HG1, hZ, hs1, hb1⟩ := make_row (P := Tryz.prog) w 22 5 _ Tryz.underlying22 infoU8 (x.size : Int) x.size (by omega) (by omega)
  go_enter Tryz.func90, Tryz.ntmps90
  go_wp2_with fail
  obtain ⟨w2, hc2, HG2, hs2, hB2⟩ := copy_text (P := Tryz.prog) w1 22 9 3 5 Tryz.underlying22 sizeU8 (some ⟨w.heap.size, 0, none⟩) x.size x.size x (by omega) w.heap.size 0 Z _ HG1 (fun _ => rfl) (by omega)
  have hb2 := hB2 _ _ hb1 (Nat.le_refl _)
  rw [hc2]
  clear hc2 hmk hB2 HG1 hb1
  go_wp2_with fail
  have HG4 : RowAt w2 w.heap.size 5 (Lib.byteCells x.data.toList ++ []) := by
    have e : splice Z 0 (Lib.byteCells x.data.toList) = Lib.byteCells x.data.toList ++ [] := by
      unfold splice
      rw [List.drop_eq_nil_of_le (by rw [len_cells]; omega)]
      simp
    rw [e] at HG2
    exact HG2
  rw [Lib.run_copy_empty_string (P := Tryz.prog) w2 22 9 3 5 (some ⟨w.heap.size, 0, none⟩) 0 0 ByteArray.empty Tryz.underlying22 (by rw [Option.isSome_iff_exists]; exact ⟨1, sizeU8⟩) rfl]
  go_wp2_with fail
  rw [text_of_row (P := Tryz.prog) w2 22 9 5 Tryz.underlying22 Tryz.underlying5 Tryz.underlying9 w.heap.size x.size x.size 5 _ _ HG4 (by rw [← Lib.size_eq])]
  go_wp2
  go_ret
  exact ⟨rfl, hb2⟩
theorem together_any (x y : ByteArray) (w : World) (hz : x.size + y.size ≤ 1000000) :
    Calls Tryz.prog 90 #[.string x, .string y] w fun e w' => e = .returned (.string (x ++ y)) ∧ Below w.heap.size w w' := by
  by_cases hy : y = ByteArray.empty
  · subst hy
    rw [ByteArray.append_empty]
    exact together_empty x w (by omega)
  · exact together_full x y w hz hy

end Go.Proofs.YtnpaekjiafaahaaGreatDoor

/- The walk of the program's LabelsOf. -/
namespace Go.Proofs.YtnpaekjiafaahaaGreatDoor
open Go.RowKit

theorem atL_get {L : List ByteArray} {k : Nat} (h : k < L.length) : atL L k = L[k] := by simp [atL, h]

set_option maxRecDepth 10000 in
set_option maxHeartbeats 400000 in
theorem labelsOf_cap (s : ByteArray) (w : World) (hG : MaxI w) (hs : s.size ≤ 1048576) :
    Calls Tryz.prog 125 #[.string s] w fun e w' => ∃ v, e = .returned v ∧ SliceS w' w.heap.size v (labelsL s).length (atL (labelsL s)) ∧ Below w.heap.size w w' ∧ ∃ p c, v = .slice p (labelsL s).length c ∧ (labelsL s).length ≤ c := by
  cases hh : hostB s with
  | false =>
    have HL : Hid (labelsL s = []) := by
      show _ = _
      rw [labelsL, if_neg (by simp [hh])]
    have HC : Hid (Calls Tryz.prog 116 #[.string s] w fun e w' => e = .returned (.bool false) ∧ Below w.heap.size w w') := by
      have := hostRight_any s w hG hs
      rw [hh] at this; exact this
    clear hh hG
    go_enter Tryz.func125, Tryz.ntmps125
    go_wp2_with (go_at_call 116; refine HC.out.mono ?_; rintro e w1 ⟨rfl, hb⟩)
    go_ret
    exact ⟨_, rfl, by rw [HL.out]; exact ⟨none, 0, rfl, fun h => absurd h (by simp)⟩, hb, by rw [HL.out]; exact ⟨_, _, rfl, Nat.le_refl _⟩⟩
  | true =>
    have HL : Hid (labelsL s = splitB s 46) := by
      show _ = _
      rw [labelsL, if_pos hh]
    have HC : Hid (Calls Tryz.prog 116 #[.string s] w fun e w' => e = .returned (.bool true) ∧ Below w.heap.size w w') := by
      have := hostRight_any s w hG hs
      rw [hh] at this; exact this
    have HS : Hid (∀ W, MaxI W → Calls Tryz.prog 132 #[.string s, .string ⟨#[46]⟩] W fun e w' => e = .returned (.slice (some ⟨W.heap.size, 0, none⟩) (splitB s 46).length (splitB s 46).length) ∧ w' = W.alloc (.cells (strCells (splitB s 46)).toArray 9)) := fun W h => split_call s W h (by omega)
    have hn := splitB_len s 46
    have hsz : s.size ≤ 100 := by
      by_cases hz : 100 < s.size
      · rw [hostB_size hz] at hh; cases hh
      · omega
    have HZ : Hid (∀ x ∈ splitB s 46, x.size ≤ 100) := fun x hx => Nat.le_trans (piece_le hx) hsz
    have HG : Hid (MaxI w) := hG
    clear hh hG
    rw [HL.out]
    clear HL
    generalize splitB s 46 = L at *
    go_enter Tryz.func125, Tryz.ntmps125
    go_wp2_with (go_at_call 116; refine HC.out.mono ?_; rintro e w1 ⟨rfl, hb⟩)
    refine (HS.out _ (HG.out.on hb)).mono ?_
    rintro e w2 ⟨rfl, rfl⟩
    have hcell : ∀ k (h : k < L.length), (w1.alloc (.cells (strCells L).toArray 9)).cell? ⟨w1.heap.size, k, none⟩ = some (.string L[k]) ∧ (w1.alloc (.cells (strCells L).toArray 9)).frozen? ⟨w1.heap.size, k, none⟩ = false := by
      intro k hk
      exact ⟨by simp [strCells, hk], by simp⟩
    have hb2 : Below w.heap.size w (w1.alloc (.cells (strCells L).toArray 9)) := hb.alloc hb.size _
    have hz1 : w1.heap.size < (w1.alloc (.cells (strCells L).toArray 9)).heap.size := by simp
    have hz0 := hb.size
    generalize w1.alloc (.cells (strCells L).toArray 9) = w2 at *
    clear hb
    have HC0 : Hid (∀ k (h : k < L.length), w2.cell? ⟨w1.heap.size, k, none⟩ = some (.string L[k]) ∧ w2.frozen? ⟨w1.heap.size, k, none⟩ = false) := hcell
    have HB0 : Hid (Below w.heap.size w w2) := hb2
    clear hcell hb2
    go_wp2
    go_loopw [13] (fun i wr => ∃ k : Nat, k ≤ L.length ∧ i = .int .i64 k ∧ w1.heap.size < wr.heap.size ∧ Hid (Below w.heap.size w wr) ∧ Hid (∀ j (h : j < L.length), wr.cell? ⟨w1.heap.size, j, none⟩ = some (.string L[j]) ∧ wr.frozen? ⟨w1.heap.size, j, none⟩ = false)) (fun i _ => L.length - (intOf i).toNat)
    case atStart => exact ⟨0, by omega, rfl, hz1, HB0, HC0⟩
    case round =>
      obtain ⟨k, hk, rfl, hzr, HB, HR⟩ := hrel
      by_cases hlt : k < L.length
      · have hck := (HR.out k hlt).1
        have HT : Hid (∀ W, Calls Tryz.prog 90 #[.string L[k], .string ⟨#[]⟩] W fun e w' => e = .returned (.string L[k]) ∧ Below W.heap.size W w') := fun W => together_empty L[k] W (by have := HZ.out L[k] (List.getElem_mem hlt); omega)
        generalize hx : L[k] = x at *
        have HX : Hid (L[k] = x) := hx
        clear hx
        go_wp2_with fail
        refine (HT.out _).mono ?_
        rintro e w3 ⟨rfl, hb3⟩
        have hz3 := hb3.size
        have c1 : w3.cell? ⟨w1.heap.size, k, none⟩ = some (.string x) := by rw [(bcell hb3).1 _ _ hzr]; exact hck
        have c2 : w3.frozen? ⟨w1.heap.size, k, none⟩ = false := by rw [(bcell hb3).2 _ _ hzr]; exact (HR.out k hlt).2
        have HR3 : Hid (∀ j (h : j < L.length), w3.cell? ⟨w1.heap.size, j, none⟩ = some (.string L[j]) ∧ w3.frozen? ⟨w1.heap.size, j, none⟩ = false) := fun j hj => ⟨by rw [(bcell hb3).1 _ _ hzr]; exact (HR.out j hj).1, by rw [(bcell hb3).2 _ _ hzr]; exact (HR.out j hj).2⟩
        have HB3 : Hid (Below w.heap.size w w3) := HB.out.trans (hb3.mono (by omega))
        clear hb3 hck
        go_wp2
        go_roundw
        case rel =>
          refine ⟨k + 1, by omega, by go_num, ?_, ?_, ?_⟩
          · simp [World.setCell]; omega
          · exact HB3.out.setCell (by simpa using hz0) _
          · intro j hj
            by_cases e : j = k
            · subst e
              rw [HX.out]
              exact ⟨World.cell?_setCell_same _ _ _ c1, by rw [World.frozen?_setCell]; exact c2⟩
            · rw [World.cell?_setCell_other _ _ _ _ (by intro h; injection h with _ h; exact e h.symm), World.frozen?_setCell]
              exact HR3.out j hj
        case measure => simp [intOf]; omega
      · go_wp2
        go_ret
        exact ⟨_, rfl, ⟨_, _, rfl, fun _ => ⟨w1.heap.size, rfl, hz0, hzr, fun j hj => by rw [atL_get hj]; exact HR.out j hj⟩⟩, HB.out, _, _, rfl, Nat.le_refl _⟩
theorem labelsOf_any (s : ByteArray) (w : World) (hG : MaxI w) (hs : s.size ≤ 1048576) :
    Calls Tryz.prog 125 #[.string s] w fun e w' => ∃ v, e = .returned v ∧ SliceS w' w.heap.size v (labelsL s).length (atL (labelsL s)) ∧ Below w.heap.size w w' :=
  (labelsOf_cap s w hG hs).mono fun _ _ ⟨v, he, h1, h2, _⟩ => ⟨v, he, h1, h2⟩
end Go.Proofs.YtnpaekjiafaahaaGreatDoor
