/- The walk of the specification's UrlText. -/
import Derived.Test.YtknjkakokcblnaaDoorSpecUrl
import Derived.Deep.RegionHeld3
namespace Go.Proofs.YtknjkakokcblnaaDoor
open Go.RowKit

/-- the text of a right url, else the empty one -/
def urlT (sc ho pa : ByteArray) (po : Int) : ByteArray := if urlB sc ho pa po = true then placeT sc ho po ++ pa else ⟨#[]⟩
theorem schemeB_size {t : ByteArray} (h : schemeB t = true) : t.size ≤ 5 := by
  have hl : t.size = t.toList.length := by rw [ByteArray.toList_eq]; rfl
  unfold schemeB at h
  rw [Bool.or_eq_true, beq_iff_eq, beq_iff_eq] at h
  rcases h with h | h <;> rw [hl, h] <;> decide
theorem urlB_parts {sc ho pa : ByteArray} {po : Int} (h : urlB sc ho pa po = true) : sc.size ≤ 5 ∧ ho.size ≤ 100 ∧ 1 ≤ po ∧ po ≤ 65535 ∧ pa.size ≤ 40 := by
  unfold urlB placeB at h
  simp only [Bool.and_eq_true, decide_eq_true_eq] at h
  obtain ⟨⟨⟨h1, h2⟩, h3, h4⟩, h5⟩ := h
  refine ⟨schemeB_size h1, ?_, h3, h4, ?_⟩
  · by_cases hz : 100 < ho.size
    · rw [hostB_size hz] at h2; cases h2
    · omega
  · by_cases hz : 40 < pa.size
    · rw [pathB_size (.inr hz)] at h5; cases h5
    · omega
theorem placeT_size {sc ho : ByteArray} {po : Int} (h1 : sc.size ≤ 5) (h2 : ho.size ≤ 100) (h3 : 1 ≤ po) (h4 : po ≤ 65535) : (placeT sc ho po).size ≤ 200 := by
  have hd := decB_size (n := po) (by omega) (by omega)
  have e1 : (⟨#[58, 47, 47]⟩ : ByteArray).size = 3 := rfl
  have e2 : (⟨#[58]⟩ : ByteArray).size = 1 := rfl
  unfold placeT
  split
  · rw [ByteArray.size_append, ByteArray.size_append]; omega
  · rw [ByteArray.size_append, ByteArray.size_append, ByteArray.size_append, ByteArray.size_append]; omega

set_option maxRecDepth 10000 in
set_option maxHeartbeats 400000 in
theorem specUrlText_any (sc ho pa : ByteArray) (po : Int) (w : World) :
    Calls Tryd.prog 19 #[urlV sc ho pa po] w fun e w' => e = .returned (.string (urlT sc ho pa po)) ∧ Below w.heap.size w w' := by
  have H1 := fun W => specUrlRight_any sc ho pa po W
  by_cases hu : urlB sc ho pa po = true
  · have HT : Hid (urlT sc ho pa po = placeT sc ho po ++ pa) := by
      show _ = _
      rw [urlT, if_pos hu]
    obtain ⟨h1, h2, h3, h4, h5⟩ := urlB_parts hu
    have H2 := fun W => specText_any sc ho po W (by omega) (by omega) (by omega) (by omega)
    have hz := placeT_size h1 h2 h3 h4
    rw [hu] at H1
    unfold urlV at H1 ⊢
    generalize placeT sc ho po = d at *
    have G1 : Hid (∀ W, Calls Tryd.prog 21 #[.agg #[.string sc, .string ho, .int .i64 po, .string pa]] W fun e w' => e = .returned (.bool true) ∧ Below W.heap.size W w') := H1
    have G2 : Hid (∀ W, Calls Tryd.prog 54 #[.string sc, .string ho, .int .i64 po] W fun e w' => e = .returned (.string d) ∧ Below W.heap.size W w') := H2
    have hadd : ∀ W, Sem.run Tryd.prog (Op.stringOp .add d pa) W = .ok (.string (d ++ pa)) W := fun W => run_string_add_sum W d pa (by omega)
    have hnot : ¬ 9223372036854775807 < d.size + pa.size := by omega
    clear H1 H2 hu h3 h4
    go_enter Tryd.func19, Tryd.ntmps19
    go_wp2_with fail
    refine (G1.out _).mono ?_
    rintro e w1 ⟨rfl, hb⟩
    have hz1 : w.heap.size < w1.heap.size := by have := hb.size; simp at this; omega
    have hc0 : w1.cell? ⟨w.heap.size, 0, none⟩ = some (.string sc) := by rw [(bcell hb).1 _ _ (by simp)]; simp
    have hc1 : w1.cell? ⟨w.heap.size, 1, none⟩ = some (.string ho) := by rw [(bcell hb).1 _ _ (by simp)]; simp
    have hc2 : w1.cell? ⟨w.heap.size, 2, none⟩ = some (.int .i64 po) := by rw [(bcell hb).1 _ _ (by simp)]; simp
    have hc3 : w1.cell? ⟨w.heap.size, 3, none⟩ = some (.string pa) := by rw [(bcell hb).1 _ _ (by simp)]; simp
    have HB : Hid (Below w.heap.size w w1) := ((Below.refl _ _).alloc (Nat.le_refl _) _).trans (hb.mono (by simp))
    clear hb
    go_wp2_with fail
    go_region_held3 (fun w' => w'.cell? ⟨w.heap.size, 0, none⟩ = some (.string sc) ∧ w'.cell? ⟨w.heap.size, 1, none⟩ = some (.string ho) ∧ w'.cell? ⟨w.heap.size, 2, none⟩ = some (.int .i64 po) ∧ w'.cell? ⟨w.heap.size, 3, none⟩ = some (.string pa)) (go_keep)
      (first | (go_at_call 54; refine (G2.out _).mono ?_; rintro e w2 ⟨rfl, hb2⟩; have hd0 : w2.cell? ⟨w.heap.size, 0, none⟩ = some (.string sc) := (hb2.cell (p := ⟨w.heap.size, 0, none⟩) (by simpa using hz1)).trans (by simpa using hc0); have hd1 : w2.cell? ⟨w.heap.size, 1, none⟩ = some (.string ho) := (hb2.cell (p := ⟨w.heap.size, 1, none⟩) (by simpa using hz1)).trans (by simpa using hc1); have hd2 : w2.cell? ⟨w.heap.size, 2, none⟩ = some (.int .i64 po) := (hb2.cell (p := ⟨w.heap.size, 2, none⟩) (by simpa using hz1)).trans (by simpa using hc2); have hd3 : w2.cell? ⟨w.heap.size, 3, none⟩ = some (.string pa) := (hb2.cell (p := ⟨w.heap.size, 3, none⟩) (by simpa using hz1)).trans (by simpa using hc3)))
    all_goals go_wp2
    all_goals
      go_ret
      exact ⟨ret_text HT.out.symm, HB.out.trans (((Below.refl _ _).drew).trans (hb2.mono (by simp; omega)))⟩
  · have hf : urlB sc ho pa po = false := by simpa using hu
    have HT : Hid (urlT sc ho pa po = ⟨#[]⟩) := by
      show _ = _
      rw [urlT, if_neg hu]
    rw [hf] at H1
    unfold urlV at H1 ⊢
    have G1 : Hid (∀ W, Calls Tryd.prog 21 #[.agg #[.string sc, .string ho, .int .i64 po, .string pa]] W fun e w' => e = .returned (.bool false) ∧ Below W.heap.size W w') := H1
    clear H1 hu hf
    go_enter Tryd.func19, Tryd.ntmps19
    go_wp2_with fail
    refine (G1.out _).mono ?_
    rintro e w1 ⟨rfl, hb⟩
    go_wp2
    go_ret
    exact ⟨ret_text HT.out.symm, ((Below.refl _ _).alloc (Nat.le_refl _) _).trans (hb.mono (by simp))⟩
end Go.Proofs.YtknjkakokcblnaaDoor
