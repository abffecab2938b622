/- The law FnExactOriginOf, walked, over what the program's OriginOf answers. -/
import Derived.Test.YtknjkakokcblnagDoorLawUrl
import Derived.Test.YtknjkakokcblnagDoorSpecOrigin
namespace Go.Proofs.YtknjkakokcblnagDoor
open Go.RowKit

/-- the origin of a url -/
def originOfV (sc ho pa : ByteArray) (po : Int) : Value := if urlB sc ho pa po = true then originV sc ho po 0 else originV ⟨#[]⟩ ⟨#[]⟩ 0 0
theorem originOfV_form (sc ho pa : ByteArray) (po : Int) : ∃ a b c d, originOfV sc ho pa po = .agg #[.string a, .string b, .int .i64 c, .int .i64 d] := by
  unfold originOfV
  split
  · exact ⟨_, _, _, _, rfl⟩
  · exact ⟨_, _, _, _, rfl⟩

set_option maxHeartbeats 400000 in
theorem eqOrigin_same (a b : ByteArray) (c d : Int) (w : World) :
    Calls Tryd.prog 19 #[.agg #[.string a, .string b, .int .i64 c, .int .i64 d], .agg #[.string a, .string b, .int .i64 c, .int .i64 d]] w fun e w' => e = .returned (.bool true) ∧ Below w.heap.size w w' := by
  go_enter Tryd.func19, Tryd.ntmps19
  go_wp2
  go_ret
  exact ⟨rfl, ((Below.refl _ _).alloc (Nat.le_refl _) _).alloc (by simp) _⟩

set_option maxHeartbeats 1000000 in
theorem lawOriginOf_of (w : World) (hI : ∀ (sc ho pa : ByteArray) (po : Int) (W : World), Below w.heap.size w W → sc.size + ho.size + pa.size ≤ 1048576 → Calls Tryd.prog 18 #[urlV sc ho pa po] W fun e w' => e = .returned (originOfV sc ho pa po) ∧ Below W.heap.size W w')
    (sc ho pa : ByteArray) (po : Int) (h1 : sc.size ≤ maxLen) (h2 : ho.size ≤ maxLen) (h3 : pa.size ≤ maxLen) :
    Calls Tryd.prog 5 #[urlV sc ho pa po] w fun e w' => e = .returned (.bool true) ∧ Below w.heap.size w w' := by
  have H1 : Hid (∀ W, Calls Tryd.prog 15 #[urlV sc ho pa po, .int .i64 1048576] W fun e w' => (∃ r : Int, e = .returned (.int .i64 r) ∧ (r < 0 ∨ (0 ≤ r ∧ sc.size + ho.size + pa.size ≤ 1048576))) ∧ Below W.heap.size W w') := fun W => szUrl_any sc ho pa po W h1 h2 h3
  have H2 : Hid (∀ W, Calls Tryd.prog 17 #[urlV sc ho pa po] W fun e w' => e = .returned (urlV sc ho pa po) ∧ Below W.heap.size W w') := fun W => toUrl_any sc ho pa po W
  have H3 : Hid (∀ W, Calls Tryd.prog 16 #[urlV sc ho pa po] W fun e w' => e = .returned (originOfV sc ho pa po) ∧ Below W.heap.size W w') := fun W => specOriginOf_any sc ho pa po W
  have H4 : Hid (∀ W, Below w.heap.size w W → sc.size + ho.size + pa.size ≤ 1048576 → Calls Tryd.prog 18 #[urlV sc ho pa po] W fun e w' => e = .returned (originOfV sc ho pa po) ∧ Below W.heap.size W w') := fun W hb h => hI sc ho pa po W hb h
  clear h1 h2 h3 hI
  obtain ⟨x, y, z, u, ev⟩ := originOfV_form sc ho pa po
  rw [ev] at H3 H4
  clear ev
  unfold urlV at *
  go_enter Tryd.func5, Tryd.ntmps5
  go_wp2_with fail
  refine (H1.out _).mono ?_
  rintro e w1 ⟨⟨r, rfl, hr⟩, hb1⟩
  have hz1 : w.heap.size < w1.heap.size := by have := hb1.size; simp at this; omega
  have HC1 : Hid (∀ o, w1.cell? ⟨w.heap.size, o, none⟩ = (w.alloc (.cells #[.string sc, .string ho, .int .i64 po, .string pa] 36)).cell? ⟨w.heap.size, o, none⟩) := fun o => (bcell hb1).1 _ _ (by simp)
  have HB1 : Hid (Below w.heap.size w w1) := ((Below.refl _ _).alloc (Nat.le_refl _) _).trans (hb1.mono (by simp))
  clear hb1
  have a0 : w1.cell? ⟨w.heap.size, 0, none⟩ = some (.string sc) := by rw [HC1.out]; simp
  have a1 : w1.cell? ⟨w.heap.size, 1, none⟩ = some (.string ho) := by rw [HC1.out]; simp
  have a2 : w1.cell? ⟨w.heap.size, 2, none⟩ = some (.int .i64 po) := by rw [HC1.out]; simp
  have a3 : w1.cell? ⟨w.heap.size, 3, none⟩ = some (.string pa) := by rw [HC1.out]; simp
  rcases hr with hr | ⟨hr, hsum⟩
  · go_wp2
    go_ret
    exact ⟨rfl, HB1.out⟩
  · have q : decide (r < 0) = false := by rw [decide_eq_false_iff_not]; omega
    go_wp2_with fail
    refine (H2.out _).mono ?_
    rintro e w2 ⟨rfl, hb2⟩
    have hz2 := hb2.size
    go_wp2_with fail
    refine (H3.out _).mono ?_
    rintro e w3 ⟨rfl, hb3⟩
    have hz3 := hb3.size
    have HB3 : Hid (Below w.heap.size w w3) := (HB1.out.trans (hb2.mono (Nat.le_of_lt hz1))).trans (hb3.mono (by omega))
    have c0 : w3.cell? ⟨w.heap.size, 0, none⟩ = some (.string sc) := by rw [(bcell hb3).1 _ _ (by omega), (bcell hb2).1 _ _ hz1]; exact a0
    have c1 : w3.cell? ⟨w.heap.size, 1, none⟩ = some (.string ho) := by rw [(bcell hb3).1 _ _ (by omega), (bcell hb2).1 _ _ hz1]; exact a1
    have c2 : w3.cell? ⟨w.heap.size, 2, none⟩ = some (.int .i64 po) := by rw [(bcell hb3).1 _ _ (by omega), (bcell hb2).1 _ _ hz1]; exact a2
    have c3 : w3.cell? ⟨w.heap.size, 3, none⟩ = some (.string pa) := by rw [(bcell hb3).1 _ _ (by omega), (bcell hb2).1 _ _ hz1]; exact a3
    have hz03 : w.heap.size < w3.heap.size := by omega
    clear hb2 hb3 a0 a1 a2 a3
    go_wp2_with fail
    refine (H2.out _).mono ?_
    rintro e w4 ⟨rfl, hb4⟩
    have hz4 : w3.heap.size < w4.heap.size := by have := hb4.size; simp at this; omega
    go_wp2_with fail
    refine (H4.out _ ((HB3.out.alloc (by omega) _).trans (hb4.mono (by simp; omega))) hsum).mono ?_
    rintro e w5 ⟨rfl, hb5⟩
    have hz5 := hb5.size
    have d0 : w5.cell? ⟨w3.heap.size, 0, none⟩ = some (.string x) := by rw [(bcell hb5).1 _ _ hz4, (bcell hb4).1 _ _ (by simp)]; simp
    have d1 : w5.cell? ⟨w3.heap.size, 1, none⟩ = some (.string y) := by rw [(bcell hb5).1 _ _ hz4, (bcell hb4).1 _ _ (by simp)]; simp
    have d2 : w5.cell? ⟨w3.heap.size, 2, none⟩ = some (.int .i64 z) := by rw [(bcell hb5).1 _ _ hz4, (bcell hb4).1 _ _ (by simp)]; simp
    have d3 : w5.cell? ⟨w3.heap.size, 3, none⟩ = some (.int .i64 u) := by rw [(bcell hb5).1 _ _ hz4, (bcell hb4).1 _ _ (by simp)]; simp
    have hz35 : w3.heap.size < w5.heap.size := by omega
    have HB5 : Hid (Below w.heap.size w w5) := ((HB3.out.alloc (by omega) _).trans (hb4.mono (by simp; omega))).trans (hb5.mono (by omega))
    clear hb4 hb5
    go_wp2_with fail
    refine (eqOrigin_same x y z u _).mono ?_
    rintro e w6 ⟨rfl, hb6⟩
    go_wp2
    go_ret
    exact ⟨rfl, (HB5.out.alloc (by omega) _).trans (hb6.mono (by simp; omega))⟩
end Go.Proofs.YtknjkakokcblnagDoor
