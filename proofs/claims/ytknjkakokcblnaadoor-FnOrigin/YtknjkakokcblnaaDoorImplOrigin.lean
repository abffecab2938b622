/- The walks of the program's OriginRight, OriginOf, OriginText and OriginSame. -/
import Derived.Test.YtknjkakokcblnaaDoorImplUrl
import Derived.Test.YtknjkakokcblnaaDoorSpecOrigin2
import Derived.Test.YtknjkakokcblnaaDoorTogether
import Derived.Test.YtknjkakokcblnaaDoorImplText
namespace Go.Proofs.YtknjkakokcblnaaDoor
open Go.RowKit

set_option maxRecDepth 10000 in
set_option maxHeartbeats 400000 in
theorem originRight_any (sc ho : ByteArray) (po no : Int) (w : World) (hG : MaxI w) (hh : ho.size ≤ 1048576) :
    Calls Tryd.prog 36 #[originV sc ho po no] w fun e w' => e = .returned (.bool (originB sc ho po no)) ∧ Below w.heap.size w w' := by
  unfold originV
  have HG : Hid (∀ o, MaxI (w.alloc o)) := fun o => hG.on ((Below.refl _ _).alloc (Nat.le_refl _) _)
  clear hG
  by_cases h0 : no = 0
  · have q : (no == 0) = true := by rw [beq_iff_eq]; exact h0
    have H1 := fun W (h : MaxI W) => placeRight_any sc ho po W h hh
    have HP : Hid (originB sc ho po no = placeB sc ho po) := by show _ = _; rw [originB, if_pos h0]
    clear h0
    generalize placeB sc ho po = b at *
    have G1 : Hid (∀ W, MaxI W → Calls Tryd.prog 55 #[.string sc, .string ho, .int .i64 po] W fun e w' => e = .returned (.bool b) ∧ Below W.heap.size W w') := H1
    clear H1
    go_enter Tryd.func36, Tryd.ntmps36
    go_wp2_with fail
    refine (G1.out _ (HG.out _)).mono ?_
    rintro e w1 ⟨rfl, hb⟩
    go_wp2
    go_ret
    exact ⟨ret_bool HP.out.symm, ((Below.refl _ _).alloc (Nat.le_refl _) _).trans (hb.mono (by simp))⟩
  · have q : (no == 0) = false := by rw [beq_eq_false_iff_ne]; exact h0
    have HP : Hid (originB sc ho po no = ((decide (1 ≤ no) && decide (no ≤ 1000000)) && sc.toList.isEmpty && ho.toList.isEmpty && (po == 0))) := by show _ = _; rw [originB, if_neg h0]
    clear h0
    cases q1 : decide (1 ≤ no) with
    | false =>
      go_enter Tryd.func36, Tryd.ntmps36
      go_wp2
      go_ret
      exact ⟨ret_bool (by rw [HP.out, q1]; rfl), (Below.refl _ _).alloc (Nat.le_refl _) _⟩
    | true =>
      cases q2 : decide (no ≤ 1000000) with
      | false =>
        go_enter Tryd.func36, Tryd.ntmps36
        go_wp2
        go_ret
        exact ⟨ret_bool (by rw [HP.out, q1, q2]; rfl), (Below.refl _ _).alloc (Nat.le_refl _) _⟩
      | true =>
        go_enter Tryd.func36, Tryd.ntmps36
        go_wp2
        all_goals
          go_ret
          exact ⟨ret_bool (by rw [HP.out, q1, q2]; simp [*]), (Below.refl _ _).alloc (Nat.le_refl _) _⟩
set_option maxRecDepth 10000 in
set_option maxHeartbeats 400000 in
theorem originText_any (sc ho : ByteArray) (po no : Int) (w : World) (hG : MaxI w) (hT : PowI w) (hh : ho.size ≤ 1048576) :
    Calls Tryd.prog 34 #[originV sc ho po no] w fun e w' => e = .returned (.string (originT sc ho po no)) ∧ Below w.heap.size w w' := by
  have H1 := fun W (h : MaxI W) => originRight_any sc ho po no W h hh
  have HG : Hid (∀ o, MaxI (w.alloc o)) := fun o => hG.on ((Below.refl _ _).alloc (Nat.le_refl _) _)
  have HT0 : Hid (PowI w) := hT
  clear hG hT
  cases hr : originB sc ho po no with
  | false =>
    have HT : Hid (originT sc ho po no = ⟨#[]⟩) := by show _ = _; rw [originT, hr]; simp
    rw [hr] at H1
    unfold originV at H1 ⊢
    have G1 : Hid (∀ W, MaxI W → Calls Tryd.prog 36 #[.agg #[.string sc, .string ho, .int .i64 po, .int .i64 no]] W fun e w' => e = .returned (.bool false) ∧ Below W.heap.size W w') := H1
    clear H1 hr
    go_enter Tryd.func34, Tryd.ntmps34
    go_wp2_with fail
    refine (G1.out _ (HG.out _)).mono ?_
    rintro e w1 ⟨rfl, hb⟩
    go_wp2
    go_ret
    exact ⟨ret_text HT.out.symm, ((Below.refl _ _).alloc (Nat.le_refl _) _).trans (hb.mono (by simp))⟩
  | true =>
    have HT : Hid (originT sc ho po no = if no = 0 then placeT sc ho po else ⟨#[110, 117, 108, 108, 35]⟩ ++ decB no) := by show _ = _; rw [originT, hr]; simp
    have hr2 := hr
    rw [hr] at H1
    unfold originV at H1 ⊢
    have G1 : Hid (∀ W, MaxI W → Calls Tryd.prog 36 #[.agg #[.string sc, .string ho, .int .i64 po, .int .i64 no]] W fun e w' => e = .returned (.bool true) ∧ Below W.heap.size W w') := H1
    clear H1 hr
    by_cases h0 : no = 0
    · rw [originB, if_pos h0] at hr2
      have q : (no != 0) = false := by rw [bne_eq_false_iff_eq]; exact h0
      rw [if_pos h0] at HT
      have H2 := fun W (h : PowI W) => placeText_any sc ho po W h hr2
      clear h0 hr2
      generalize placeT sc ho po = d at *
      have G2 : Hid (∀ W, PowI W → Calls Tryd.prog 49 #[.string sc, .string ho, .int .i64 po] W fun e w' => e = .returned (.string d) ∧ Below W.heap.size W w') := H2
      clear H2
      go_enter Tryd.func34, Tryd.ntmps34
      go_wp2_with fail
      refine (G1.out _ (HG.out _)).mono ?_
      rintro e w1 ⟨rfl, hb⟩
      have hz1 : w.heap.size < w1.heap.size := by have := hb.size; simp at this; omega
      have HB : Hid (Below w.heap.size w w1) := ((Below.refl _ _).alloc (Nat.le_refl _) _).trans (hb.mono (by simp))
      obtain ⟨hc, hf⟩ := bcell hb
      go_wp2_with fail
      refine (G2.out _ (HT0.out.on HB.out)).mono ?_
      rintro e w2 ⟨rfl, hb2⟩
      go_wp2
      go_ret
      exact ⟨ret_text HT.out.symm, HB.out.trans (hb2.mono (Nat.le_of_lt hz1))⟩
    · rw [originB, if_neg h0] at hr2
      simp only [Bool.and_eq_true, decide_eq_true_eq] at hr2
      have q : (no != 0) = true := by rw [bne_iff_ne]; exact h0
      rw [if_neg h0] at HT
      have hd := decB_size (n := no) (by omega) (by omega)
      have H2 := fun W (h : PowI W) => dec_call no W h (by omega) (by omega)
      clear h0 hr2
      generalize decB no = d at *
      have G2 : Hid (∀ W, PowI W → Calls Tryd.prog 65 #[.int .i64 no, .int .i64 10] W fun e w' => e = .returned (.string d) ∧ Below W.heap.size W w') := H2
      clear H2
      go_enter Tryd.func34, Tryd.ntmps34
      go_wp2_with fail
      refine (G1.out _ (HG.out _)).mono ?_
      rintro e w1 ⟨rfl, hb⟩
      have hz1 : w.heap.size < w1.heap.size := by have := hb.size; simp at this; omega
      have HB : Hid (Below w.heap.size w w1) := ((Below.refl _ _).alloc (Nat.le_refl _) _).trans (hb.mono (by simp))
      obtain ⟨hc, hf⟩ := bcell hb
      go_wp2_with fail
      refine (G2.out _ (HT0.out.on HB.out)).mono ?_
      rintro e w2 ⟨rfl, hb2⟩
      go_wp2
      go_ret
      exact ⟨ret_text HT.out.symm, HB.out.trans (hb2.mono (Nat.le_of_lt hz1))⟩
/-- a url's fields at block g, an empty origin's behind it -/
def OfAt (w : World) (g : Nat) (sc ho : ByteArray) (po : Int) : Prop :=
  g + 1 < w.heap.size ∧ w.cell? ⟨g, 0, none⟩ = some (.string sc) ∧ w.cell? ⟨g, 1, none⟩ = some (.string ho) ∧ w.cell? ⟨g, 2, none⟩ = some (.int .i64 po) ∧ w.cell? ⟨g + 1, 0, none⟩ = some (.string ⟨#[]⟩) ∧ w.cell? ⟨g + 1, 1, none⟩ = some (.string ⟨#[]⟩) ∧ w.cell? ⟨g + 1, 2, none⟩ = some (.int .i64 0) ∧ w.cell? ⟨g + 1, 3, none⟩ = some (.int .i64 0) ∧ w.frozen? ⟨g + 1, 0, none⟩ = false ∧ w.frozen? ⟨g + 1, 1, none⟩ = false ∧ w.frozen? ⟨g + 1, 2, none⟩ = false ∧ w.frozen? ⟨g + 1, 3, none⟩ = false
theorem OfAt.below {w w' : World} {g : Nat} {sc ho : ByteArray} {po : Int} (h : OfAt w g sc ho po) (hb : Below w.heap.size w w') : OfAt w' g sc ho po := by
  obtain ⟨h0, h1, h2, h3, h4, h5, h6, h7, h8, h9, ha, hc⟩ := h
  have hz := hb.size
  obtain ⟨kc, kf⟩ := bcell hb
  refine ⟨by omega, ?_, ?_, ?_, ?_, ?_, ?_, ?_, ?_, ?_, ?_, ?_⟩
  · rw [kc _ _ (by omega)]; exact h1
  · rw [kc _ _ (by omega)]; exact h2
  · rw [kc _ _ (by omega)]; exact h3
  · rw [kc _ _ h0]; exact h4
  · rw [kc _ _ h0]; exact h5
  · rw [kc _ _ h0]; exact h6
  · rw [kc _ _ h0]; exact h7
  · rw [kf _ _ h0]; exact h8
  · rw [kf _ _ h0]; exact h9
  · rw [kf _ _ h0]; exact ha
  · rw [kf _ _ h0]; exact hc
set_option maxRecDepth 10000 in
set_option maxHeartbeats 1000000 in
theorem originOf_any (sc ho pa : ByteArray) (po : Int) (w : World) (hG : MaxI w) (hh : ho.size ≤ 1048576) :
    Calls Tryd.prog 31 #[urlV sc ho pa po] w fun e w' => e = .returned (if urlB sc ho pa po = true then originV sc ho po 0 else originV ⟨#[]⟩ ⟨#[]⟩ 0 0) ∧ Below w.heap.size w w' := by
  have H1 := fun W (h : MaxI W) => urlRight_any sc ho pa po W h hh
  have HG : Hid (∀ o o', MaxI ((w.alloc o).alloc o')) := fun o o' => hG.on (((Below.refl _ _).alloc (Nat.le_refl _) _).alloc (by simp) _)
  clear hG
  unfold urlV at H1 ⊢
  cases hu : urlB sc ho pa po with
  | false =>
    rw [hu] at H1
    rw [if_neg (by simp)]
    have G1 : Hid (∀ W, MaxI W → Calls Tryd.prog 20 #[.agg #[.string sc, .string ho, .int .i64 po, .string pa]] W fun e w' => e = .returned (.bool false) ∧ Below W.heap.size W w') := H1
    clear H1 hu
    go_enter Tryd.func31, Tryd.ntmps31
    go_wp2_with fail
    refine (G1.out _ (HG.out _ _)).mono ?_
    rintro e w1 ⟨rfl, hb⟩
    obtain ⟨hc, hf⟩ := bcell hb
    go_wp2
    refine bodyPost_ret (v := originV ⟨#[]⟩ ⟨#[]⟩ 0 0) (by simp [originV, results, Tryd.results31, go_sem, hc]) rfl ⟨rfl, ?_⟩
    exact Below.setCell (Below.setCell (Below.setCell (Below.setCell ((((Below.refl _ _).alloc (Nat.le_refl _) _).alloc (by simp) _).trans (hb.mono (by simp; omega))) (by simp) _) (by simp) _) (by simp) _) (by simp) _
  | true =>
    obtain ⟨h1, h2, _, _, _⟩ := urlB_parts hu
    have G2 : Hid (∀ W, Calls Tryd.prog 46 #[.string sc, .string ⟨#[]⟩] W fun e w' => e = .returned (.string sc) ∧ Below W.heap.size W w') := fun W => together_empty sc W (by omega)
    have G3 : Hid (∀ W, Calls Tryd.prog 46 #[.string ho, .string ⟨#[]⟩] W fun e w' => e = .returned (.string ho) ∧ Below W.heap.size W w') := fun W => together_empty ho W (by omega)
    rw [hu] at H1
    rw [if_pos rfl]
    have G1 : Hid (∀ W, MaxI W → Calls Tryd.prog 20 #[.agg #[.string sc, .string ho, .int .i64 po, .string pa]] W fun e w' => e = .returned (.bool true) ∧ Below W.heap.size W w') := H1
    clear H1 hu h1 h2
    go_enter Tryd.func31, Tryd.ntmps31
    go_wp2_with fail
    refine (G1.out _ (HG.out _ _)).mono ?_
    rintro e w1 ⟨rfl, hb⟩
    have hz1 : w.heap.size + 1 < w1.heap.size := by have := hb.size; simp at this; omega
    have HB : Hid (Below w.heap.size w w1) := (((Below.refl _ _).alloc (Nat.le_refl _) _).alloc (by simp) _).trans (hb.mono (by simp; omega))
    obtain ⟨hc, hf⟩ := bcell hb
    have c0 : w1.cell? ⟨w.heap.size, 0, none⟩ = some (.string sc) := by rw [hc _ _ (by simp <;> omega), World.cell?_alloc_lt _ _ ⟨w.heap.size, 0, none⟩ (by simp)]; simp
    have c1 : w1.cell? ⟨w.heap.size, 1, none⟩ = some (.string ho) := by rw [hc _ _ (by simp <;> omega), World.cell?_alloc_lt _ _ ⟨w.heap.size, 1, none⟩ (by simp)]; simp
    have c2 : w1.cell? ⟨w.heap.size, 2, none⟩ = some (.int .i64 po) := by rw [hc _ _ (by simp <;> omega), World.cell?_alloc_lt _ _ ⟨w.heap.size, 2, none⟩ (by simp)]; simp
    have r0 : w1.cell? ⟨w.heap.size + 1, 0, none⟩ = some (.string ⟨#[]⟩) := by rw [hc _ _ (by simp <;> omega), World.cell?_alloc_at _ _ _ _ (by simp)]; rfl
    have r1 : w1.cell? ⟨w.heap.size + 1, 1, none⟩ = some (.string ⟨#[]⟩) := by rw [hc _ _ (by simp <;> omega), World.cell?_alloc_at _ _ _ _ (by simp)]; rfl
    have r2 : w1.cell? ⟨w.heap.size + 1, 2, none⟩ = some (.int .i64 0) := by rw [hc _ _ (by simp <;> omega), World.cell?_alloc_at _ _ _ _ (by simp)]; rfl
    have r3 : w1.cell? ⟨w.heap.size + 1, 3, none⟩ = some (.int .i64 0) := by rw [hc _ _ (by simp <;> omega), World.cell?_alloc_at _ _ _ _ (by simp)]; rfl
    have hfz : ∀ o, w1.frozen? ⟨w.heap.size + 1, o, none⟩ = false := fun o => by rw [hf _ _ (by simp <;> omega)]; simp
    have f0 := hfz 0
    have f1 := hfz 1
    have f2 := hfz 2
    have f3 := hfz 3
    clear hb hc hf hfz
    go_wp2_with fail
    go_region_held3 (fun w' => w.heap.size + 1 < w'.heap.size ∧ w'.cell? ⟨w.heap.size, 0, none⟩ = some (.string sc) ∧ w'.cell? ⟨w.heap.size, 1, none⟩ = some (.string ho) ∧ w'.cell? ⟨w.heap.size, 2, none⟩ = some (.int .i64 po)) (go_keep)
      (first
        | (go_at_call_of 46 (Value.string sc); refine (G2.out _).mono ?_; rintro e wA ⟨rfl, hbA⟩; have TA := OfAt.below (g := w.heap.size) (sc := sc) (ho := ho) (po := po) (by unfold OfAt; go_keep) hbA; obtain ⟨zA, p0A, p1A, p2A, q0A, q1A, q2A, q3A, f0A, f1A, f2A, f3A⟩ := TA)
        | (go_at_call_of 46 (Value.string ho); refine (G3.out _).mono ?_; rintro e wB ⟨rfl, hbB⟩; have TB := OfAt.below (g := w.heap.size) (sc := sc) (ho := ho) (po := po) (by unfold OfAt; go_keep) hbB; obtain ⟨zB, p0B, p1B, p2B, q0B, q1B, q2B, q3B, f0B, f1B, f2B, f3B⟩ := TB))
    have HBB : Hid (Below w.heap.size w wB) := (HB.out.trans (((Below.refl _ _).drew).trans (hbA.mono (by simp; omega)))).trans (hbB.mono (by omega))
    clear hbA hbB
    go_wp2
    refine bodyPost_ret (v := originV sc ho po 0) (by simp [originV, results, Tryd.results31, go_sem, q0B, q1B, q2B, q3B]) rfl ⟨rfl, ?_⟩
    exact Below.setCell (Below.setCell (Below.setCell (Below.setCell HBB.out (by simp) _) (by simp) _) (by simp) _) (by simp) _
theorem sameF_eq {sc ho : ByteArray} {po no : Int} {sc2 ho2 : ByteArray} {po2 no2 : Int} (h : sameF sc ho po no sc2 ho2 po2 no2 = true) : sc = sc2 ∧ ho = ho2 ∧ po = po2 ∧ no = no2 := by
  unfold sameF at h
  simp only [Bool.and_eq_true, beq_iff_eq] at h
  obtain ⟨⟨⟨h1, h2⟩, h3⟩, h4⟩ := h
  rw [ByteArray.toList_eq, ByteArray.toList_eq] at h1 h2
  refine ⟨?_, ?_, h3, h4⟩
  · cases sc; cases sc2; congr 1; exact Array.toList_inj.1 h1
  · cases ho; cases ho2; congr 1; exact Array.toList_inj.1 h2
set_option maxRecDepth 10000 in
set_option maxHeartbeats 400000 in
theorem originSame_any (sc ho : ByteArray) (po no : Int) (sc2 ho2 : ByteArray) (po2 no2 : Int) (w : World) (hG : MaxI w) (hh : ho.size ≤ 1048576) :
    Calls Tryd.prog 30 #[originV sc ho po no, originV sc2 ho2 po2 no2] w fun e w' => e = .returned (.bool (sameO sc ho po no sc2 ho2 po2 no2)) ∧ Below w.heap.size w w' := by
  have H1 := fun W (h : MaxI W) => originRight_any sc ho po no W h hh
  have HG : Hid (∀ o o', MaxI ((w.alloc o).alloc o')) := fun o o' => hG.on (((Below.refl _ _).alloc (Nat.le_refl _) _).alloc (by simp) _)
  have HS : Hid (sameO sc ho po no sc2 ho2 po2 no2 = (originB sc ho po no && originB sc2 ho2 po2 no2 && sameF sc ho po no sc2 ho2 po2 no2)) := rfl
  have HF : Hid (sameF sc ho po no sc2 ho2 po2 no2 = ((sc.toList == sc2.toList) && (ho.toList == ho2.toList) && (po == po2) && (no == no2))) := rfl
  have HE : Hid (sameF sc ho po no sc2 ho2 po2 no2 = true → originB sc2 ho2 po2 no2 = originB sc ho po no) := fun h => by
    obtain ⟨rfl, rfl, rfl, rfl⟩ := sameF_eq h
    rfl
  generalize originB sc ho po no = b at *
  unfold originV at H1 ⊢
  have G1 : Hid (∀ W, MaxI W → Calls Tryd.prog 36 #[.agg #[.string sc, .string ho, .int .i64 po, .int .i64 no]] W fun e w' => e = .returned (.bool b) ∧ Below W.heap.size W w') := H1
  clear H1 hG
  cases hs : sameF sc ho po no sc2 ho2 po2 no2 with
  | false =>
    have HQ : Hid (sameO sc ho po no sc2 ho2 po2 no2 = false) := by show _ = _; rw [HS.out, hs]; simp
    rw [HF.out] at hs
    have HW : Hid (∀ o o', Below w.heap.size w ((w.alloc o).alloc o')) := fun o o' => ((Below.refl _ _).alloc (Nat.le_refl _) _).alloc (by simp) _
    cases e1 : (sc.toList == sc2.toList) with
    | false =>
      go_enter Tryd.func30, Tryd.ntmps30
      go_wp2
      go_ret
      exact ⟨ret_bool HQ.out.symm, HW.out _ _⟩
    | true =>
      cases e2 : (ho.toList == ho2.toList) with
      | false =>
        go_enter Tryd.func30, Tryd.ntmps30
        go_wp2
        go_ret
        exact ⟨ret_bool HQ.out.symm, HW.out _ _⟩
      | true =>
        cases e3 : (po == po2) with
        | false =>
          go_enter Tryd.func30, Tryd.ntmps30
          go_wp2
          go_ret
          exact ⟨ret_bool HQ.out.symm, HW.out _ _⟩
        | true =>
          have e4 : (no == no2) = false := by rw [e1, e2, e3] at hs; exact hs
          go_enter Tryd.func30, Tryd.ntmps30
          go_wp2
          go_ret
          exact ⟨ret_bool HQ.out.symm, HW.out _ _⟩
  | true =>
    have HQ : Hid (sameO sc ho po no sc2 ho2 po2 no2 = b) := by show _ = _; rw [HS.out, hs, HE.out hs]; simp
    obtain ⟨rfl, rfl, rfl, rfl⟩ := sameF_eq hs
    clear hs HS HF HE
    go_enter Tryd.func30, Tryd.ntmps30
    go_wp2_with fail
    refine (G1.out _ (HG.out _ _)).mono ?_
    rintro e w1 ⟨rfl, hb⟩
    go_wp2
    all_goals
      go_ret
      exact ⟨ret_bool HQ.out.symm, (((Below.refl _ _).alloc (Nat.le_refl _) _).alloc (by simp) _).trans (hb.mono (by simp; omega))⟩
end Go.Proofs.YtknjkakokcblnaaDoor
