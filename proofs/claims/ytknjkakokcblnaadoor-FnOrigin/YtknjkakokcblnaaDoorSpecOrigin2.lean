/- The walks of the specification's OriginText and OriginSame. -/
import Derived.Test.YtknjkakokcblnaaDoorSpecOrigin
namespace Go.Proofs.YtknjkakokcblnaaDoor
open Go.RowKit

theorem placeB_parts {sc ho : ByteArray} {po : Int} (h : placeB sc ho po = true) : sc.size ≤ 5 ∧ ho.size ≤ 100 ∧ 1 ≤ po ∧ po ≤ 65535 := by
  unfold placeB at h
  simp only [Bool.and_eq_true, decide_eq_true_eq] at h
  obtain ⟨⟨h1, h2⟩, h3, h4⟩ := h
  refine ⟨schemeB_size h1, ?_, h3, h4⟩
  by_cases hz : 100 < ho.size
  · rw [hostB_size hz] at h2; cases h2
  · omega

set_option maxRecDepth 10000 in
set_option maxHeartbeats 400000 in
theorem specL02Origin_any (sc ho : ByteArray) (po no : Int) (w : World) (hr : originB sc ho po no = true) :
    Calls Tryd.prog 66 #[originV sc ho po no] w fun e w' => e = .returned (.string (if no = 0 then placeT sc ho po else ⟨#[110, 117, 108, 108, 35]⟩ ++ decB no)) ∧ Below w.heap.size w w' := by
  unfold originV
  by_cases h0 : no = 0
  · rw [originB, if_pos h0] at hr
    have hp := placeB_parts hr
    have H1 := fun W => specText_any sc ho po W (by omega) (by omega) (by omega) (by omega)
    have q : (no != 0) = false := by rw [bne_eq_false_iff_eq]; exact h0
    rw [if_pos h0]
    clear h0 hr hp
    generalize placeT sc ho po = d at *
    have G1 : Hid (∀ W, Calls Tryd.prog 54 #[.string sc, .string ho, .int .i64 po] W fun e w' => e = .returned (.string d) ∧ Below W.heap.size W w') := H1
    clear H1
    go_enter Tryd.func66, Tryd.ntmps66
    go_wp2_with fail
    refine (G1.out _).mono ?_
    rintro e w1 ⟨rfl, hb⟩
    go_wp2
    go_ret
    exact ⟨rfl, ((Below.refl _ _).alloc (Nat.le_refl _) _).trans (hb.mono (by simp))⟩
  · rw [originB, if_neg h0] at hr
    simp only [Bool.and_eq_true, decide_eq_true_eq] at hr
    have q : (no != 0) = true := by rw [bne_iff_ne]; exact h0
    have hd := decB_size (n := no) (by omega) (by omega)
    have H1 := fun W => specDec_any no W (by omega) (by omega)
    rw [if_neg h0]
    clear h0 hr
    generalize decB no = d at *
    have G1 : Hid (∀ W, Calls Tryd.prog 75 #[.int .i64 no] W fun e w' => e = .returned (.string d) ∧ Below W.heap.size W w') := H1
    clear H1
    go_enter Tryd.func66, Tryd.ntmps66
    go_wp2_with fail
    refine (G1.out _).mono ?_
    rintro e w1 ⟨rfl, hb⟩
    go_wp2
    go_ret
    exact ⟨rfl, ((Below.refl _ _).alloc (Nat.le_refl _) _).trans (hb.mono (by simp))⟩

set_option maxRecDepth 10000 in
set_option maxHeartbeats 400000 in
theorem specOriginText_any (sc ho : ByteArray) (po no : Int) (w : World) :
    Calls Tryd.prog 35 #[originV sc ho po no] w fun e w' => e = .returned (.string (originT sc ho po no)) ∧ Below w.heap.size w w' := by
  have H1 := fun W => specOriginRight_any sc ho po no W
  cases hr : originB sc ho po no with
  | false =>
    have HT : Hid (originT sc ho po no = ⟨#[]⟩) := by show _ = _; rw [originT, hr]; simp
    rw [hr] at H1
    unfold originV at H1 ⊢
    have G1 : Hid (∀ W, Calls Tryd.prog 37 #[.agg #[.string sc, .string ho, .int .i64 po, .int .i64 no]] W fun e w' => e = .returned (.bool false) ∧ Below W.heap.size W w') := H1
    clear H1 hr
    go_enter Tryd.func35, Tryd.ntmps35
    go_wp2_with fail
    refine (G1.out _).mono ?_
    rintro e w1 ⟨rfl, hb⟩
    go_wp2
    go_ret
    exact ⟨ret_text HT.out.symm, ((Below.refl _ _).alloc (Nat.le_refl _) _).trans (hb.mono (by simp))⟩
  | true =>
    have H2 := fun W => specL02Origin_any sc ho po no W hr
    have HT : Hid (originT sc ho po no = if no = 0 then placeT sc ho po else ⟨#[110, 117, 108, 108, 35]⟩ ++ decB no) := by show _ = _; rw [originT, hr]; simp
    generalize (if no = 0 then placeT sc ho po else ⟨#[110, 117, 108, 108, 35]⟩ ++ decB no) = d at *
    rw [hr] at H1
    unfold originV at H1 H2 ⊢
    have G1 : Hid (∀ W, Calls Tryd.prog 37 #[.agg #[.string sc, .string ho, .int .i64 po, .int .i64 no]] W fun e w' => e = .returned (.bool true) ∧ Below W.heap.size W w') := H1
    have G2 : Hid (∀ W, Calls Tryd.prog 66 #[.agg #[.string sc, .string ho, .int .i64 po, .int .i64 no]] W fun e w' => e = .returned (.string d) ∧ Below W.heap.size W w') := H2
    clear H1 H2 hr
    go_enter Tryd.func35, Tryd.ntmps35
    go_wp2_with fail
    refine (G1.out _).mono ?_
    rintro e w1 ⟨rfl, hb⟩
    have hz1 : w.heap.size < w1.heap.size := by have := hb.size; simp at this; omega
    obtain ⟨hc, hf⟩ := bcell hb
    go_wp2_with fail
    refine (G2.out _).mono ?_
    rintro e w2 ⟨rfl, hb2⟩
    go_wp2
    go_ret
    exact ⟨ret_text HT.out.symm, (((Below.refl _ _).alloc (Nat.le_refl _) _).trans (hb.mono (by simp))).trans (hb2.mono (Nat.le_of_lt hz1))⟩
/-- field by field -/
def sameF (sc ho : ByteArray) (po no : Int) (sc2 ho2 : ByteArray) (po2 no2 : Int) : Bool := (sc.toList == sc2.toList) && (ho.toList == ho2.toList) && (po == po2) && (no == no2)

set_option maxRecDepth 10000 in
set_option maxHeartbeats 1000000 in
theorem specOriginSame_both (sc ho : ByteArray) (po no : Int) (sc2 ho2 : ByteArray) (po2 no2 : Int) (w : World) (h1 : originB sc ho po no = true) (h2 : originB sc2 ho2 po2 no2 = true) :
    Calls Tryd.prog 32 #[originV sc ho po no, originV sc2 ho2 po2 no2] w fun e w' => e = .returned (.bool (sameF sc ho po no sc2 ho2 po2 no2)) ∧ Below w.heap.size w w' := by
  have H1 := fun W => specOriginRight_any sc ho po no W
  have H2 := fun W => specOriginRight_any sc2 ho2 po2 no2 W
  rw [h1] at H1
  rw [h2] at H2
  unfold originV at H1 H2 ⊢
  have G1 : Hid (∀ W, Calls Tryd.prog 37 #[.agg #[.string sc, .string ho, .int .i64 po, .int .i64 no]] W fun e w' => e = .returned (.bool true) ∧ Below W.heap.size W w') := H1
  have G2 : Hid (∀ W, Calls Tryd.prog 37 #[.agg #[.string sc2, .string ho2, .int .i64 po2, .int .i64 no2]] W fun e w' => e = .returned (.bool true) ∧ Below W.heap.size W w') := H2
  clear H1 H2 h1 h2
  go_enter Tryd.func32, Tryd.ntmps32
  go_wp2_with fail
  refine (G1.out _).mono ?_
  rintro e w1 ⟨rfl, hb⟩
  have hz1 : w.heap.size + 1 < w1.heap.size := by have := hb.size; simp at this; omega
  obtain ⟨hc, hf⟩ := bcell hb
  go_wp2_with fail
  refine (G2.out _).mono ?_
  rintro e w2 ⟨rfl, hb2⟩
  have hd00 : w2.cell? ⟨w.heap.size, 0, none⟩ = some (.string sc) := by rw [(bcell hb2).1 _ _ (by omega), hc _ _ (by simp <;> omega), World.cell?_alloc_lt _ _ ⟨w.heap.size, 0, none⟩ (by simp)]; simp
  have hd01 : w2.cell? ⟨w.heap.size, 1, none⟩ = some (.string ho) := by rw [(bcell hb2).1 _ _ (by omega), hc _ _ (by simp <;> omega), World.cell?_alloc_lt _ _ ⟨w.heap.size, 1, none⟩ (by simp)]; simp
  have hd02 : w2.cell? ⟨w.heap.size, 2, none⟩ = some (.int .i64 po) := by rw [(bcell hb2).1 _ _ (by omega), hc _ _ (by simp <;> omega), World.cell?_alloc_lt _ _ ⟨w.heap.size, 2, none⟩ (by simp)]; simp
  have hd03 : w2.cell? ⟨w.heap.size, 3, none⟩ = some (.int .i64 no) := by rw [(bcell hb2).1 _ _ (by omega), hc _ _ (by simp <;> omega), World.cell?_alloc_lt _ _ ⟨w.heap.size, 3, none⟩ (by simp)]; simp
  have hd10 : w2.cell? ⟨w.heap.size + 1, 0, none⟩ = some (.string sc2) := by rw [(bcell hb2).1 _ _ (by omega), hc _ _ (by simp <;> omega), World.cell?_alloc_at _ _ _ _ (by simp)]; rfl
  have hd11 : w2.cell? ⟨w.heap.size + 1, 1, none⟩ = some (.string ho2) := by rw [(bcell hb2).1 _ _ (by omega), hc _ _ (by simp <;> omega), World.cell?_alloc_at _ _ _ _ (by simp)]; rfl
  have hd12 : w2.cell? ⟨w.heap.size + 1, 2, none⟩ = some (.int .i64 po2) := by rw [(bcell hb2).1 _ _ (by omega), hc _ _ (by simp <;> omega), World.cell?_alloc_at _ _ _ _ (by simp)]; rfl
  have hd13 : w2.cell? ⟨w.heap.size + 1, 3, none⟩ = some (.int .i64 no2) := by rw [(bcell hb2).1 _ _ (by omega), hc _ _ (by simp <;> omega), World.cell?_alloc_at _ _ _ _ (by simp)]; rfl
  clear hc hf
  have HB : Hid (Below w.heap.size w w2) := ((((Below.refl _ _).alloc (Nat.le_refl _) _).alloc (by simp) _).trans (hb.mono (by simp; omega))).trans (hb2.mono (by omega))
  clear hb hb2
  have HS : Hid (sameF sc ho po no sc2 ho2 po2 no2 = ((sc.toList == sc2.toList) && (ho.toList == ho2.toList) && (po == po2) && (no == no2))) := rfl
  cases e1 : (sc.toList == sc2.toList) with
  | false =>
    go_wp2
    go_ret
    exact ⟨ret_bool (by rw [HS.out, e1]; simp), HB.out⟩
  | true =>
    cases e2 : (ho.toList == ho2.toList) with
    | false =>
      go_wp2
      go_ret
      exact ⟨ret_bool (by rw [HS.out, e1, e2]; simp), HB.out⟩
    | true =>
      cases e3 : (po == po2) with
      | false =>
        go_wp2
        go_ret
        exact ⟨ret_bool (by rw [HS.out, e1, e2, e3]; rfl), HB.out⟩
      | true =>
        cases e4 : (no == no2) with
        | false =>
          go_wp2
          go_ret
          exact ⟨ret_bool (by rw [HS.out, e1, e2, e3, e4]; rfl), HB.out⟩
        | true =>
          go_wp2
          go_ret
          exact ⟨ret_bool (by rw [HS.out, e1, e2, e3, e4]; rfl), HB.out⟩

set_option maxRecDepth 10000 in
set_option maxHeartbeats 400000 in
theorem specOriginSame_first (sc ho : ByteArray) (po no : Int) (sc2 ho2 : ByteArray) (po2 no2 : Int) (w : World) (h1 : originB sc ho po no = false) :
    Calls Tryd.prog 32 #[originV sc ho po no, originV sc2 ho2 po2 no2] w fun e w' => e = .returned (.bool false) ∧ Below w.heap.size w w' := by
  have H1 := fun W => specOriginRight_any sc ho po no W
  rw [h1] at H1
  unfold originV at H1 ⊢
  have G1 : Hid (∀ W, Calls Tryd.prog 37 #[.agg #[.string sc, .string ho, .int .i64 po, .int .i64 no]] W fun e w' => e = .returned (.bool false) ∧ Below W.heap.size W w') := H1
  clear H1 h1
  go_enter Tryd.func32, Tryd.ntmps32
  go_wp2_with fail
  refine (G1.out _).mono ?_
  rintro e w1 ⟨rfl, hb⟩
  go_wp2
  go_ret
  exact ⟨rfl, (((Below.refl _ _).alloc (Nat.le_refl _) _).alloc (by simp) _).trans (hb.mono (by simp; omega))⟩

set_option maxRecDepth 10000 in
set_option maxHeartbeats 400000 in
theorem specOriginSame_second (sc ho : ByteArray) (po no : Int) (sc2 ho2 : ByteArray) (po2 no2 : Int) (w : World) (h1 : originB sc ho po no = true) (h2 : originB sc2 ho2 po2 no2 = false) :
    Calls Tryd.prog 32 #[originV sc ho po no, originV sc2 ho2 po2 no2] w fun e w' => e = .returned (.bool false) ∧ Below w.heap.size w w' := by
  have H1 := fun W => specOriginRight_any sc ho po no W
  have H2 := fun W => specOriginRight_any sc2 ho2 po2 no2 W
  rw [h1] at H1
  rw [h2] at H2
  unfold originV at H1 H2 ⊢
  have G1 : Hid (∀ W, Calls Tryd.prog 37 #[.agg #[.string sc, .string ho, .int .i64 po, .int .i64 no]] W fun e w' => e = .returned (.bool true) ∧ Below W.heap.size W w') := H1
  have G2 : Hid (∀ W, Calls Tryd.prog 37 #[.agg #[.string sc2, .string ho2, .int .i64 po2, .int .i64 no2]] W fun e w' => e = .returned (.bool false) ∧ Below W.heap.size W w') := H2
  clear H1 H2 h1 h2
  go_enter Tryd.func32, Tryd.ntmps32
  go_wp2_with fail
  refine (G1.out _).mono ?_
  rintro e w1 ⟨rfl, hb⟩
  have hz1 : w.heap.size + 1 < w1.heap.size := by have := hb.size; simp at this; omega
  obtain ⟨hc, hf⟩ := bcell hb
  go_wp2_with fail
  refine (G2.out _).mono ?_
  rintro e w2 ⟨rfl, hb2⟩
  have HB : Hid (Below w.heap.size w w2) := ((((Below.refl _ _).alloc (Nat.le_refl _) _).alloc (by simp) _).trans (hb.mono (by simp; omega))).trans (hb2.mono (by omega))
  clear hb hb2 hc hf
  go_wp2
  go_ret
  exact ⟨rfl, HB.out⟩

/-- are two right origins the same? -/
def sameO (sc ho : ByteArray) (po no : Int) (sc2 ho2 : ByteArray) (po2 no2 : Int) : Bool := originB sc ho po no && originB sc2 ho2 po2 no2 && sameF sc ho po no sc2 ho2 po2 no2
theorem specOriginSame_any (sc ho : ByteArray) (po no : Int) (sc2 ho2 : ByteArray) (po2 no2 : Int) (w : World) :
    Calls Tryd.prog 32 #[originV sc ho po no, originV sc2 ho2 po2 no2] w fun e w' => e = .returned (.bool (sameO sc ho po no sc2 ho2 po2 no2)) ∧ Below w.heap.size w w' := by
  unfold sameO
  cases h1 : originB sc ho po no with
  | false => exact specOriginSame_first sc ho po no sc2 ho2 po2 no2 w h1
  | true =>
    cases h2 : originB sc2 ho2 po2 no2 with
    | false => exact specOriginSame_second sc ho po no sc2 ho2 po2 no2 w h1 h2
    | true => exact specOriginSame_both sc ho po no sc2 ho2 po2 no2 w h1 h2
end Go.Proofs.YtknjkakokcblnaaDoor
