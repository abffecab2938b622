/- The walk of the program's suffixBegin. -/
import Derived.Test.YtmlacbjlafdenaaDoorImplLongest
import Derived.Test.YtmlacbjlafdenaaDoorImplApart
namespace Go.Proofs.YtmlacbjlafdenaaDoor
open Go.RowKit

theorem atL_mem {L : List ByteArray} : ∀ x ∈ L, ∃ i, i < L.length ∧ x = atL L i := fun x hx => by
  obtain ⟨i, hi, e⟩ := List.getElem_of_mem hx
  exact ⟨i, hi, by simp [atL, hi, e]⟩
set_option maxRecDepth 10000 in
set_option maxHeartbeats 1000000 in
theorem begin_any (v1 v2 : Value) (n m B1 B2 : Nat) (f h : Nat → ByteArray) (w : World) (hG : MaxI w) (h1 : SliceS w B1 v1 n f) (h2 : SliceS w B2 v2 m h) (l1 : n ≤ 1048576) (l2 : m ≤ 1048576) (hm : 1 ≤ m) (hf : ∀ i, i < n → (f i).size ≤ 1048576) :
    Calls Tryd.prog 100 #[v1, v2] w fun e w' => e = .returned (.int .i64 (beginN n f m h : Nat)) ∧ Below w.heap.size w w' := by
  have H2 : Hid (SliceS w B2 v2 m h) := h2
  have HG : Hid (MaxI w) := hG
  have KA : Hid (Calls Tryd.prog 119 #[v1] w fun e w' => ∃ ve vo, e = .returned (.tuple #[ve, vo]) ∧ SliceS w' w.heap.size ve (exL f n).length (atL (exL f n)) ∧ SliceS w' w.heap.size vo (otL f n).length (atL (otL f n)) ∧ Below w.heap.size w w') := apart_any v1 n B1 f w h1 l1
  have e1 := exL_len f n
  have e2 := otL_len f n
  have KL : Hid (∀ (v : Value) (B : Nat) (W : World), MaxI W → SliceS W B v (exL f n).length (atL (exL f n)) → SliceS W B2 v2 m h → Calls Tryd.prog 120 #[v, v2] W fun e w' => e = .returned (.int .i64 (longN (exL f n) m h : Nat)) ∧ Below W.heap.size W w') :=
    fun v B W a b c => longest_any v v2 B B2 m (exL f n) h W a b c (by omega) l2 (exL_small hf)
  have KO : Hid (∀ (v : Value) (B : Nat) (W : World), MaxI W → SliceS W B v (otL f n).length (atL (otL f n)) → SliceS W B2 v2 m h → Calls Tryd.prog 120 #[v, v2] W fun e w' => e = .returned (.int .i64 (longN (otL f n) m h : Nat)) ∧ Below W.heap.size W w') :=
    fun v B W a b c => longest_any v v2 B B2 m (otL f n) h W a b c (by omega) l2 (otL_small hf)
  have b1 := longN_le (exL f n) m h
  have b2 := longN_le (otL f n) m h
  have EB : Hid (beginN n f m h = if longN (exL f n) m h < m then longN (exL f n) m h + 1 else min (longN (otL f n) m h) (m - 1)) := rfl
  obtain ⟨p2, c2, rfl, -⟩ := h2
  clear hG h1 hf e1 e2
  generalize beginN n f m h = R at *
  generalize longN (exL f n) m h = x at *
  generalize longN (otL f n) m h = y at *
  go_enter Tryd.func100, Tryd.ntmps100
  go_wp2_with fail
  refine KA.out.mono ?_
  rintro e w1 ⟨ve, vo, rfl, se, so, hb1⟩
  have SO : Hid (SliceS w1 w.heap.size vo (otL f n).length (atL (otL f n))) := so
  have SE : Hid (SliceS w1 w.heap.size ve (exL f n).length (atL (exL f n))) := se
  have B1' : Hid (Below w.heap.size w w1) := hb1
  clear se so hb1
  go_wp2_with fail
  refine (KL.out ve _ w1 (HG.out.on B1'.out) SE.out (H2.out.below B1'.out)).mono ?_
  rintro e w2 ⟨rfl, hb2⟩
  have SO2 : Hid (SliceS w2 w.heap.size vo (otL f n).length (atL (otL f n))) := SO.out.below hb2
  have B2' : Hid (Below w.heap.size w w2) := B1'.out.trans (hb2.mono B1'.out.size)
  clear hb2 SO SE
  by_cases hx : x < m
  · have HQ : Hid (R = x + 1) := by show _ = _; rw [EB.out, if_pos hx]
    go_wp2
    go_ret
    exact ⟨ret_int (by rw [HQ.out]; omega), B2'.out⟩
  · have HQ : Hid (R = min y (m - 1)) := by show _ = _; rw [EB.out, if_neg hx]
    have KO2 := KO.out vo _ w2 (HG.out.on B2'.out) SO2.out (H2.out.below B2'.out)
    go_wp2_with fail
    refine KO2.mono ?_
    rintro e w3 ⟨rfl, hb3⟩
    clear KO2
    go_wp2
    go_ret
    exact ⟨ret_int (by rw [HQ.out]; omega), B2'.out.trans (hb3.mono B2'.out.size)⟩
end Go.Proofs.YtmlacbjlafdenaaDoor
