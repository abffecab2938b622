/- The walk of the program's grantCopy, and its copiesOf at Grants. Written by implleave2.py. -/
import Derived.Test.YtehnklgpdjfcgaaLeaveT
import Derived.Test.YtehnklgpdjfcgaaTogether
import Derived.Test.YtehnklgpdjfcgaaCellsL
import Derived.Test.YtehnklgpdjfcgaaPlacedG
import Derived.Test.YtehnklgpdjfcgaaImplCopiesG
import Derived.Deep.RegionHeld3
import Derived.Deep.DeepCutAuto
import Derived.Laws.ResultCell
namespace Go.Proofs.Ytehnklgpdjfcgaa
open Go.RowKit
set_option linter.unusedSimpArgs false

set_option maxRecDepth 10000 in
set_option maxHeartbeats 8000000 in
theorem grantCopy_any (c : Gr) (w : World) (h0 : c.tp.size ≤ 1000000) (h1 : c.si.size ≤ 1000000) :
    Calls Try.prog 44 #[grV c] w fun e w' => e = .returned (grV c) ∧ Below w.heap.size w w' := by
  obtain ⟨ke, na, va⟩ := c
  unfold grV
  dsimp only at h0 h1 ⊢
  have K0 : Hid (∀ W, Calls Try.prog 73 #[.string ke, .string ⟨#[]⟩] W fun e w' => e = .returned (.string ke) ∧ Below W.heap.size W w') := fun W => together_empty ke W (by omega)
  have K1 : Hid (∀ W, Calls Try.prog 73 #[.string na, .string ⟨#[]⟩] W fun e w' => e = .returned (.string na) ∧ Below W.heap.size W w') := fun W => together_empty na W (by omega)
  obtain ⟨W0, hW⟩ : ∃ W0, W0 = ((w.alloc (.cells #[.string ke, .string na, .int .i64 va] 62)).alloc (.cells #[.string ⟨#[]⟩, .string ⟨#[]⟩, .int .i64 0] 62)) := ⟨_, rfl⟩
  have hW0 : Hid (W0 = ((w.alloc (.cells #[.string ke, .string na, .int .i64 va] 62)).alloc (.cells #[.string ⟨#[]⟩, .string ⟨#[]⟩, .int .i64 0] 62))) := hW
  have HB : Hid (Below w.heap.size w W0) := by show Below _ _ _; rw [hW]; exact ((Below.refl _ _).alloc (Nat.le_refl _) _).alloc (by simp) _
  have z1 : w.heap.size + 1 < W0.heap.size := by rw [hW]; simp
  have c0 : W0.cell? ⟨w.heap.size, 0, none⟩ = some (.string ke) := by rw [hW]; simp
  have c1 : W0.cell? ⟨w.heap.size, 1, none⟩ = some (.string na) := by rw [hW]; simp
  have c2 : W0.cell? ⟨w.heap.size, 2, none⟩ = some (.int .i64 va) := by rw [hW]; simp
  have d0 : W0.cell? ⟨w.heap.size + 1, 0, none⟩ = some (.string ⟨#[]⟩) := by rw [hW]; exact (World.cell?_alloc_at _ _ _ _ (by simp)).trans rfl
  have d1 : W0.cell? ⟨w.heap.size + 1, 1, none⟩ = some (.string ⟨#[]⟩) := by rw [hW]; exact (World.cell?_alloc_at _ _ _ _ (by simp)).trans rfl
  have d2 : W0.cell? ⟨w.heap.size + 1, 2, none⟩ = some (.int .i64 0) := by rw [hW]; exact (World.cell?_alloc_at _ _ _ _ (by simp)).trans rfl
  have fz : ∀ o, W0.frozen? ⟨w.heap.size + 1, o, none⟩ = false := by rw [hW]; exact fun o => World.frozen?_alloc_at _ _ _ _ (by simp)
  have f0 := fz 0
  have f1 := fz 1
  have f2 := fz 2
  clear hW h0 h1 fz
  go_enter Try.func44, Try.ntmps44
  go_upto_region 1 with fail
  rw [← hW0.out]
  clear hW0
  generalize hbb : w.heap.size = b at *
  have hb1 : b < W0.heap.size := by omega
  refine wp_region_held_drew (S := (fun w' => w'.cell? ⟨b, 0, none⟩ = some (.string ke) ∧ w'.cell? ⟨b, 1, none⟩ = some (.string na) ∧ w'.cell? ⟨b, 2, none⟩ = some (.int .i64 va))) (by kernel_rfl) ?_ (fun hH0 => ?_)
  · (try dsimp only)
    go_keep
  refine wpAnyH_take (i := 0) (v := ?va0) rfl (by kernel_rfl) (by kernel_rfl) (by kernel_rfl) (fun _ _ _ h => h) (Or.inl ⟨by rfl, ?hya0⟩) (by assumption) ?resta0
  case hya0 =>
    intro w hSw
    (try dsimp only at hSw)
    go_simp
    try with_reducible rfl
  try simp only [Act.put, List.setIfInBounds_toArray, List.set_cons_zero, List.set_cons_succ]
  refine wpAnyH_take (i := 1) (v := ?va1) rfl (by kernel_rfl) (by kernel_rfl) (by kernel_rfl) (fun _ _ _ h => h) (Or.inl ⟨by rfl, ?hya1⟩) (by assumption) ?resta1
  case hya1 =>
    intro w hSw
    (try dsimp only at hSw)
    go_simp
    try with_reducible rfl
  try simp only [Act.put, List.setIfInBounds_toArray, List.set_cons_zero, List.set_cons_succ]
  refine wpAnyH_take (i := 3) (v := ?va3) rfl (by kernel_rfl) (by kernel_rfl) (by kernel_rfl) (fun _ _ _ h => h) (Or.inl ⟨by rfl, ?hya3⟩) (by assumption) ?resta3
  case hya3 =>
    intro w hSw
    (try dsimp only at hSw)
    go_simp
    try with_reducible rfl
  try simp only [Act.put, List.setIfInBounds_toArray, List.set_cons_zero, List.set_cons_succ]
  refine wpAnyH_take (i := 4) (v := ?va4) rfl (by kernel_rfl) (by kernel_rfl) (by kernel_rfl) (fun _ _ _ h => h) (Or.inl ⟨by rfl, ?hya4⟩) (by assumption) ?resta4
  case hya4 =>
    intro w hSw
    (try dsimp only at hSw)
    go_simp
    try with_reducible rfl
  try simp only [Act.put, List.setIfInBounds_toArray, List.set_cons_zero, List.set_cons_succ]
  refine wpAnyH_take (i := 6) (v := ?va6) rfl (by kernel_rfl) (by kernel_rfl) (by kernel_rfl) (fun _ _ _ h => h) (Or.inl ⟨by rfl, ?hya6⟩) (by assumption) ?resta6
  case hya6 =>
    intro w hSw
    (try dsimp only at hSw)
    go_simp
    try with_reducible rfl
  try simp only [Act.put, List.setIfInBounds_toArray, List.set_cons_zero, List.set_cons_succ]
  refine wpAnyH_take (i := 7) (v := ?va7) rfl (by kernel_rfl) (by kernel_rfl) (by kernel_rfl) (fun _ _ _ h => h) (Or.inl ⟨by rfl, ?hya7⟩) (by assumption) ?resta7
  case hya7 =>
    intro w hSw
    (try dsimp only at hSw)
    go_simp
    try with_reducible rfl
  try simp only [Act.put, List.setIfInBounds_toArray, List.set_cons_zero, List.set_cons_succ]
  refine wpAnyH_ready (rs := [2]) (by kernel_rfl) (by simp) ?_
  refine AllReadyH.cons rfl (fun K hK => ?_) AllReadyH.nil
  go_simp
  (go_at_call 73; refine (K0.out _).mono ?_; rintro e w1 ⟨rfl, hq1⟩; have A1 : Below W0.heap.size W0 w1 := (Below.drew (Below.refl _ _)).trans hq1; have x0 : w1.cell? ⟨b, 0, none⟩ = some (.string ke) := ((bcell A1).1 _ _ hb1).trans c0; have x1 : w1.cell? ⟨b, 1, none⟩ = some (.string na) := ((bcell A1).1 _ _ hb1).trans c1; have x2 : w1.cell? ⟨b, 2, none⟩ = some (.int .i64 va) := ((bcell A1).1 _ _ hb1).trans c2)
  try (go_wp2_with fail)
  refine hK.out _ _ ?_ (fun hH1 => ?_)
  · (try dsimp only)
    go_keep
  clear hK K hH0
  try simp only [Act.put, List.setIfInBounds_toArray, List.set_cons_zero, List.set_cons_succ]
  refine wpAnyH_ready (rs := [5]) (by kernel_rfl) (by simp) ?_
  refine AllReadyH.cons rfl (fun K hK => ?_) AllReadyH.nil
  go_simp
  (go_at_call 73; refine (K1.out _).mono ?_; rintro e w2 ⟨rfl, hq2⟩; have A2 : Below W0.heap.size W0 w2 := A1.trans (hq2.mono A1.size); have y0 : w2.cell? ⟨b, 0, none⟩ = some (.string ke) := ((bcell A2).1 _ _ hb1).trans c0; have y1 : w2.cell? ⟨b, 1, none⟩ = some (.string na) := ((bcell A2).1 _ _ hb1).trans c1; have y2 : w2.cell? ⟨b, 2, none⟩ = some (.int .i64 va) := ((bcell A2).1 _ _ hb1).trans c2; have r0 : w2.cell? ⟨b + 1, 0, none⟩ = some (.string ⟨#[]⟩) := ((bcell A2).1 _ _ z1).trans d0; have s0 : w2.frozen? ⟨b + 1, 0, none⟩ = false := ((bcell A2).2 _ _ z1).trans f0; have r1 : w2.cell? ⟨b + 1, 1, none⟩ = some (.string ⟨#[]⟩) := ((bcell A2).1 _ _ z1).trans d1; have s1 : w2.frozen? ⟨b + 1, 1, none⟩ = false := ((bcell A2).2 _ _ z1).trans f1; have r2 : w2.cell? ⟨b + 1, 2, none⟩ = some (.int .i64 0) := ((bcell A2).1 _ _ z1).trans d2; have s2 : w2.frozen? ⟨b + 1, 2, none⟩ = false := ((bcell A2).2 _ _ z1).trans f2)
  try (go_wp2_with fail)
  refine hK.out _ _ ?_ (fun hH2 => ?_)
  · (try dsimp only)
    go_keep
  clear hK K hH1
  try simp only [Act.put, List.setIfInBounds_toArray, List.set_cons_zero, List.set_cons_succ]
  refine wpAnyH_take (i := 8) (v := ?va8) rfl (by kernel_rfl) (by kernel_rfl) (by kernel_rfl) (fun _ _ _ h => h) (Or.inl ⟨by rfl, ?hya8⟩) (by assumption) ?resta8
  case hya8 =>
    intro w hSw
    (try dsimp only at hSw)
    go_simp
    try with_reducible rfl
  try simp only [Act.put, List.setIfInBounds_toArray, List.set_cons_zero, List.set_cons_succ]
  refine wpAnyH_ready (rs := [9]) (by kernel_rfl) (by simp) ?_
  refine AllReadyH.cons rfl (fun K hK => ?_) AllReadyH.nil
  go_simp
  (skip)
  try (go_wp2_with fail)
  refine hK.out _ _ ?_ (fun hH3 => ?_)
  · (try dsimp only)
    go_keep
  clear hK K hH2
  try simp only [Act.put, List.setIfInBounds_toArray, List.set_cons_zero, List.set_cons_succ]
  refine wpAnyH_done (by kernel_rfl) ?_ _
  all_goals go_wp2
  all_goals
    refine bodyPost_ret (v := .agg #[.string ke, .string na, .int .i64 va]) (by simp [results, Try.results44, go_sem, r0, r1, r2]) rfl ⟨rfl, ?_⟩
    have hB2 : Below b w w2 := HB.out.trans (A2.mono (by omega))
    rw [hbb]
    refine Below.setCell (Below.setCell (Below.setCell hB2 ?_ _) ?_ _) ?_ _ <;> exact Nat.le_add_right b 1
theorem grantCopiesP_any (v : Value) (L : List Gr) (B : Nat) (w : World) (hs : SliceG w B v L) (hn : L.length ≤ 1048576) (hz : ∀ i, i < L.length → (atG L i).tp.size ≤ 1000000 ∧ (atG L i).si.size ≤ 1000000) :
    Calls Try.prog 43 #[v, .func (.func 44) #[] #[]] w fun e w' => ∃ v', e = .returned v' ∧ (SliceG w' w.heap.size v' L ∧ PlacedG v') ∧ Below w.heap.size w w' := by
  refine (copiesG_any v L B w hs hn (fun j hj W => grantCopy_any (atG L j) W (hz j hj).1 (hz j hj).2)).mono ?_
  rintro e w' ⟨v', he, h, h0, hb⟩
  refine ⟨v', he, ⟨sliceG_of_own h, ?_⟩, hb⟩
  by_cases hz : L.length = 0
  · exact .inl (h0 hz)
  · obtain ⟨⟨p, c, e, hg⟩, p2, c2, e2, hc, -⟩ := sliceG_of_own h
    obtain ⟨g, rfl, -⟩ := hg (by omega)
    rw [e] at e2
    injection e2 with _ _ e3
    exact .inr ⟨g, L.length, c, e, by omega⟩
theorem grantCopies_any (v : Value) (L : List Gr) (B : Nat) (w : World) (hs : SliceG w B v L) (hn : L.length ≤ 1048576) (hz : ∀ i, i < L.length → (atG L i).tp.size ≤ 1000000 ∧ (atG L i).si.size ≤ 1000000) :
    Calls Try.prog 43 #[v, .func (.func 44) #[] #[]] w fun e w' => ∃ v', e = .returned v' ∧ SliceG w' w.heap.size v' L ∧ Below w.heap.size w w' := by
  refine (grantCopiesP_any v L B w hs hn hz).mono ?_
  rintro e w' ⟨v', h1, ⟨h2, -⟩, h3⟩
  exact ⟨v', h1, h2, h3⟩
end Go.Proofs.Ytehnklgpdjfcgaa
