/- The walk of the program's GrantPut. -/
import Derived.Test.YtehnklgpdjfcgaaImplMay
import Derived.Test.YtehnklgpdjfcgaaImplGCopy
import Derived.Test.YtehnklgpdjfcgaaImplGOrder
import Derived.Test.YtehnklgpdjfcgaaBoxG
import Derived.Test.YtehnklgpdjfcgaaImplOldDrop
import Derived.Laws.ResultCell
namespace Go.Proofs.Ytehnklgpdjfcgaa
open Go.RowKit

theorem restG_eq (L : List Gr) (tp si : ByteArray) (now : Int) : L.filter (fun g => !(isG tp si g || !(liveG now g))) = restG L tp si now := by
  unfold restG
  rw [List.filter_filter]
  congr 1
  funext g
  cases isG tp si g <;> cases liveG now g <;> rfl
theorem insG_split {L : List Gr} {x : Gr} (hr : RiseG L) (ha : ∀ y, y ∈ L → grLess y x = true ∨ grLess x y = true) : L = L.filter (fun e => grLess e x) ++ L.filter (fun e => grLess x e) := by
  induction L with
  | nil => rfl
  | cons a L ih =>
    obtain ⟨h1, h2⟩ := List.pairwise_cons.1 hr
    have ih2 := ih h2 (fun y hy => ha y (List.mem_cons_of_mem _ hy))
    rcases ha a (by simp) with h | h
    · rw [List.filter_cons_of_pos (p := fun e => grLess e x) h, List.filter_cons_of_neg (p := fun e => grLess x e) (by rw [grLess_asymm h]; decide), List.cons_append, ← ih2]
    · have hall : ∀ y, y ∈ L → grLess x y = true := fun y hy => grLess_trans h (h1 y hy)
      rw [List.filter_cons_of_neg (p := fun e => grLess e x) (by rw [grLess_asymm h]; decide), List.filter_cons_of_pos (p := fun e => grLess x e) h, List.filter_eq_nil_iff.2 (fun y hy => by rw [grLess_asymm (hall y hy)]; decide), List.filter_eq_self.2 hall, List.nil_append]
/-- putting one into its place -/
theorem orderIns_any (L : List Gr) (x : Gr) (v : Value) (B : Nat) (w : World) (hv : PlacedG v) (hs : SliceG w B v L) (hn : L.length ≤ 100) (hr : RiseG L) (ha : ∀ y, y ∈ L → grLess y x = true ∨ grLess x y = true) :
    Calls Try.prog 55 #[v, grV x, .func (.func 56) #[] #[]] w fun e w' => ∃ v', e = .returned v' ∧ SliceG w' w.heap.size v' (insG L x) ∧ Below w.heap.size w w' := by
  have e := insG_split hr ha
  have hs2 : SliceG w B v (L.filter (fun e => grLess e x) ++ L.filter (fun e => grLess x e)) := by rw [← e]; exact hs
  refine orderG_any _ _ x v B w hv hs2 (by rw [← e]; exact hn) (fun d hd => ?_) (fun d hd => ?_)
  · have h := (List.mem_filter.1 hd).2
    have := ordG_pos d x
    rw [grLess_asymm h, decide_eq_false_iff_not] at this
    omega
  · have h := (List.mem_filter.1 hd).2
    have := ordG_pos d x
    rw [h, decide_eq_true_eq] at this
    exact this
set_option maxRecDepth 10000 in
set_option maxHeartbeats 8000000 in
theorem grantPut_any (v : Value) (L : List Gr) (tp si : ByteArray) (now : Int) (B : Nat) (w : World) (hs : SliceG w B v L) (hn : L.length ≤ 1048576) (h1 : tp.size ≤ 1048576) (h2 : si.size ≤ 1048576) :
    Calls Try.prog 18 #[v, .string tp, .string si, .int .i64 now] w fun e w' => ∃ v', e = .returned v' ∧ AnsG w' w.heap.size v' (putG L tp si now) ∧ Below w.heap.size w w' := by
  have KM0 : ∀ W, Below w.heap.size w W → Calls Try.prog 53 #[v, leaveV tp si, .int .i64 now] W fun e w' => e = .returned (.bool (mayG L tp si now)) ∧ Below W.heap.size W w' := fun W hb => mayAsk_any v L tp si now B W (hs.below hb) hn
  have KC : Hid (mayG L tp si now = true → ∀ W, Below w.heap.size w W → Calls Try.prog 43 #[v, .func (.func 44) #[] #[]] W fun e w' => ∃ v', e = .returned v' ∧ (SliceG w' W.heap.size v' L ∧ PlacedG v') ∧ Below W.heap.size W w') := fun h W hb => grantCopiesP_any v L B W (hs.below hb) hn (grants_small (mayG_parts h).1)
  have KD : Hid (mayG L tp si now = true → ∀ (b1 b2 : Nat) (u : Value) (B : Nat) (W : World), SliceG W B u L → B ≤ W.heap.size → b1 < B → b2 < B → W.cell? ⟨b1, 0, none⟩ = some (.string tp) → W.cell? ⟨b1, 1, none⟩ = some (.string si) → W.cell? ⟨b2, 0, none⟩ = some (.int .i64 now) → Calls Try.prog 42 #[u, .func (.func 54) #[] #[.pointer (some ⟨b1, 0, none⟩), .pointer (some ⟨b2, 0, none⟩)]] W fun e w' => ∃ v', e = .returned v' ∧ (SliceG w' B v' (restG L tp si now) ∧ (PlacedG u → PlacedG v')) ∧ Below B W w') := fun h b1 b2 u B W s1 s2 z1 z2 c0 c1 c2 => by
    have := deletePut_any b1 b2 (fun c => isG tp si c || !(liveG now c)) u B L W s1 s2 (by have := (grantsB_parts (mayG_parts h).1).1; omega) (fun c W' hb => put1_any b1 b2 tp si now c W' (by have := hb.size; omega) (by have := hb.size; omega) ((hb.cell (p := ⟨b1, 0, none⟩) z1).trans c0) ((hb.cell (p := ⟨b1, 1, none⟩) z1).trans c1) ((hb.cell (p := ⟨b2, 0, none⟩) z2).trans c2))
    rw [restG_eq] at this
    exact this
  have KX0 : mayG L tp si now = true → ∀ W, Calls Try.prog 44 #[grV (newG tp si now)] W fun e w' => e = .returned (grV (newG tp si now)) ∧ Below W.heap.size W w' := fun h W => grantCopy_any (newG tp si now) W (by have := (siteG_size (mayG_parts h).2.1).2; show tp.size ≤ _; omega) (by have := (siteG_size (mayG_parts h).2.2.1).2; show si.size ≤ _; omega)
  have KI0 : mayG L tp si now = true → ∀ (u : Value) (B : Nat) (W : World), PlacedG u → SliceG W B u (restG L tp si now) → Calls Try.prog 55 #[u, grV (newG tp si now), .func (.func 56) #[] #[]] W fun e w' => ∃ v', e = .returned v' ∧ SliceG w' W.heap.size v' (insG (restG L tp si now) (newG tp si now)) ∧ Below W.heap.size W w' := fun h u B W p s => orderIns_any _ _ u B W p s (by have a := (grantsB_parts (mayG_parts h).1).1; have b := restG_len L tp si now; omega) (rise_filterG (rise_filterG (grants_rise (mayG_parts h).1) _) _) rest_apart
  have HL8 : Hid (mayG L tp si now = true → (restG L tp si now).length ≤ 8 ∧ 0 ≤ now ∧ now ≤ 1000000) := fun h => by
    have a := (grantsB_parts (mayG_parts h).1).1
    have b := restG_len L tp si now
    have t := (mayG_parts h).2.2.2
    unfold timeG at t
    simp only [Bool.and_eq_true, decide_eq_true_eq] at t
    exact ⟨by omega, t.1, t.2⟩
  have HF : Hid (fitsG L tp si = (decide (L.length ≤ 400) && decide (tp.size ≤ 8000) && decide (si.size ≤ 8000))) := rfl
  have HNo : Hid (fitsG L tp si = false → putG L tp si now = noG 2) := fun h => by unfold putG; rw [show beginG L tp si now = 2 by unfold beginG; rw [if_neg (by rw [h]; decide)]]; rfl
  have HN1 : Hid (fitsG L tp si = true → mayG L tp si now = false → putG L tp si now = noG 1) := fun h h2 => by unfold putG; rw [show beginG L tp si now = 1 by unfold beginG; rw [if_pos h, if_neg (by rw [h2]; decide)]]; rfl
  have HN9 : Hid (mayG L tp si now = true → ¬ (restG L tp si now).length < 8 → putG L tp si now = noG 9) := fun h h2 => by unfold putG; rw [if_pos (begin_may h)]; unfold putR; rw [if_neg h2]
  have HY : Hid (mayG L tp si now = true → (restG L tp si now).length < 8 → putG L tp si now = ⟨insG (restG L tp si now) (newG tp si now), false, 0⟩) := fun h h2 => by unfold putG; rw [if_pos (begin_may h)]; unfold putR; rw [if_pos h2]
  have hmf : ∀ (fn : Fn) (first cap : Array Value) (w : World), (Instr.makeFunc fn first cap).run Try.prog w = .ok (.func fn first cap) w := fun _ _ _ _ => rfl
  have HU : Hid (untilG now = if now + 30 ≤ 1000000 then now + 30 else 1000000) := rfl
  unfold newG at KX0 KI0 HY
  obtain ⟨⟨q, cap, rfl, -⟩, -⟩ := hs
  generalize putG L tp si now = Z at *
  generalize insG (restG L tp si now) ⟨tp, si, untilG now⟩ = YI at *
  generalize restG L tp si now = Y at *
  generalize untilG now = un at *
  unfold grV leaveV at *
  dsimp only at *
  have KX : Hid (mayG L tp si now = true → ∀ W, Calls Try.prog 44 #[.agg #[.string tp, .string si, .int .i64 un]] W fun e w' => e = .returned (.agg #[.string tp, .string si, .int .i64 un]) ∧ Below W.heap.size W w') := KX0
  have KI : Hid (mayG L tp si now = true → ∀ (u : Value) (B : Nat) (W : World), PlacedG u → SliceG W B u Y → Calls Try.prog 55 #[u, .agg #[.string tp, .string si, .int .i64 un], .func (.func 56) #[] #[]] W fun e w' => ∃ v', e = .returned v' ∧ SliceG w' W.heap.size v' YI ∧ Below W.heap.size W w') := KI0
  have KM : Hid (∀ W, Below w.heap.size w W → Calls Try.prog 53 #[.slice q L.length cap, .agg #[.string tp, .string si], .int .i64 now] W fun e w' => e = .returned (.bool (mayG L tp si now)) ∧ Below W.heap.size W w') := KM0
  clear KX0 KI0 KM0
  generalize mayG L tp si now = my at *
  obtain ⟨W0, hW⟩ : ∃ W0, W0 = (w.alloc (.cells #[.int .i64 now] 2)).alloc (.cells #[.slice none 0 0, .bool false, .int .i64 0] 33) := ⟨_, rfl⟩
  have hW0 : Hid (W0 = (w.alloc (.cells #[.int .i64 now] 2)).alloc (.cells #[.slice none 0 0, .bool false, .int .i64 0] 33)) := hW
  have B0 : Hid (Below w.heap.size w W0) := by show Below _ _ _; rw [hW]; exact ((Below.refl _ _).alloc (Nat.le_refl _) _).alloc (by simp) _
  have n0 : W0.cell? ⟨w.heap.size, 0, none⟩ = some (.int .i64 now) := by rw [hW]; simp
  have X0 : Hid (BoxG W0 (w.heap.size + 1)) := by
    show BoxG _ _
    rw [hW]
    have := boxG_made (w.alloc (.cells #[.int .i64 now] 2)) 33
    simpa using this
  have z0 : w.heap.size + 1 < W0.heap.size := by rw [hW]; simp
  clear hW
  by_cases c1 : 400 < L.length
  case pos =>
    have HR : Hid (Z = noG 2) := HNo.out (by rw [HF.out, decide_eq_false (by omega)]; rfl)
    have q1 : decide ((400 : Int) < (L.length : Int)) = true := by rw [decide_eq_true_iff]; omega
    obtain ⟨x0, x1, x2, f0, f1, f2, hlt⟩ := X0.out
    go_enter Try.func18, Try.ntmps18
    go_upto_region 1 with fail
    rw [← hW0.out]
    clear hW0
    go_wp2
    refine bodyPost_ret (v := .agg #[.slice none 0 0, .bool false, .int .i64 2]) (by simp [results, Try.results18, go_sem, x0, x1, x2]) rfl ⟨_, rfl, ⟨_, by rw [HR.out]; rfl, by rw [HR.out]; exact sliceG_none _ _⟩, B0.out.trans ((store3G_below (Below.refl (w.heap.size + 1) W0)).mono (by omega))⟩
  have q1 : decide ((400 : Int) < (L.length : Int)) = false := by rw [decide_eq_false_iff_not]; omega
  by_cases c2 : 8000 < tp.size
  case pos =>
    have HR : Hid (Z = noG 2) := HNo.out (by rw [HF.out, decide_eq_false (p := tp.size ≤ 8000) (by omega), Bool.and_false]; rfl)
    have q2 : decide ((8000 : Int) < (tp.size : Int)) = true := by rw [decide_eq_true_iff]; omega
    obtain ⟨x0, x1, x2, f0, f1, f2, hlt⟩ := X0.out
    go_enter Try.func18, Try.ntmps18
    go_upto_region 1 with fail
    rw [← hW0.out]
    clear hW0
    go_wp2
    refine bodyPost_ret (v := .agg #[.slice none 0 0, .bool false, .int .i64 2]) (by simp [results, Try.results18, go_sem, x0, x1, x2]) rfl ⟨_, rfl, ⟨_, by rw [HR.out]; rfl, by rw [HR.out]; exact sliceG_none _ _⟩, B0.out.trans ((store3G_below (Below.refl (w.heap.size + 1) W0)).mono (by omega))⟩
  have q2 : decide ((8000 : Int) < (tp.size : Int)) = false := by rw [decide_eq_false_iff_not]; omega
  by_cases c3 : 8000 < si.size
  case pos =>
    have HR : Hid (Z = noG 2) := HNo.out (by rw [HF.out, decide_eq_false (p := si.size ≤ 8000) (by omega), Bool.and_false])
    have q3 : decide ((8000 : Int) < (si.size : Int)) = true := by rw [decide_eq_true_iff]; omega
    obtain ⟨x0, x1, x2, f0, f1, f2, hlt⟩ := X0.out
    go_enter Try.func18, Try.ntmps18
    go_upto_region 1 with fail
    rw [← hW0.out]
    clear hW0
    go_wp2
    refine bodyPost_ret (v := .agg #[.slice none 0 0, .bool false, .int .i64 2]) (by simp [results, Try.results18, go_sem, x0, x1, x2]) rfl ⟨_, rfl, ⟨_, by rw [HR.out]; rfl, by rw [HR.out]; exact sliceG_none _ _⟩, B0.out.trans ((store3G_below (Below.refl (w.heap.size + 1) W0)).mono (by omega))⟩
  have q3 : decide ((8000 : Int) < (si.size : Int)) = false := by rw [decide_eq_false_iff_not]; omega
  have HN1b : Hid (my = false → Z = noG 1) := HN1.out (by rw [HF.out, decide_eq_true (by omega), decide_eq_true (by omega), decide_eq_true (by omega)]; rfl)
  clear HF HNo HN1 c1 c2 c3
  obtain ⟨W1, hV⟩ : ∃ W1, W1 = W0.alloc (.cells #[.string tp, .string si] 73) := ⟨_, rfl⟩
  have hW1 : Hid (W1 = W0.alloc (.cells #[.string tp, .string si] 73)) := hV
  have A1 : Below W0.heap.size W0 W1 := by rw [hV]; exact (Below.refl _ _).alloc (Nat.le_refl _) _
  have B1 : Hid (Below w.heap.size w W1) := B0.out.trans (A1.mono B0.out.size)
  have l0 : W1.cell? ⟨W0.heap.size, 0, none⟩ = some (.string tp) := by rw [hV]; simp
  have l1 : W1.cell? ⟨W0.heap.size, 1, none⟩ = some (.string si) := by rw [hV]; simp
  have n1 : W1.cell? ⟨w.heap.size, 0, none⟩ = some (.int .i64 now) := ((bcell A1).1 _ _ (by omega)).trans n0
  have X1 : Hid (BoxG W1 (w.heap.size + 1)) := X0.out.below A1
  have zl : W0.heap.size < W1.heap.size := by rw [hV]; simp
  clear hV A1 X0 B0 n0
  go_enter Try.func18, Try.ntmps18
  go_upto_region 1 with fail
  rw [← hW0.out]
  clear hW0
  go_upto_region 4 with fail
  rw [← hW1.out]
  clear hW1
  generalize hbl : W0.heap.size = bl at *
  generalize hbb : w.heap.size = b at *
  go_wp2_with fail
  refine (KM.out _ B1.out).mono ?_
  rintro e w2 ⟨rfl, hb2⟩
  have B2 : Hid (Below b w w2) := B1.out.trans (hb2.mono (by omega))
  have X2 : Hid (BoxG w2 (b + 1)) := X1.out.below hb2
  have m0 : w2.cell? ⟨bl, 0, none⟩ = some (.string tp) := ((bcell hb2).1 _ _ zl).trans l0
  have m1 : w2.cell? ⟨bl, 1, none⟩ = some (.string si) := ((bcell hb2).1 _ _ zl).trans l1
  have m2 : w2.cell? ⟨b, 0, none⟩ = some (.int .i64 now) := ((bcell hb2).1 _ _ (by omega)).trans n1
  have z2 : bl < w2.heap.size := Nat.lt_of_lt_of_le zl hb2.size
  clear hb2 l0 l1 n1 X1 B1 KM
  cases my with
  | false =>
    have HR : Hid (Z = noG 1) := HN1b.out rfl
    obtain ⟨x0, x1, x2, f0, f1, f2, hlt⟩ := X2.out
    go_wp2
    refine bodyPost_ret (v := .agg #[.slice none 0 0, .bool false, .int .i64 1]) (by simp [results, Try.results18, go_sem, x0, x1, x2]) rfl ⟨_, rfl, ⟨_, by rw [HR.out]; rfl, by rw [HR.out]; exact sliceG_none _ _⟩, by rw [hbb]; exact B2.out.trans ((store3G_below (Below.refl (b + 1) w2)).mono (by omega))⟩
  | true =>
  obtain ⟨hY8, hno0, hno1⟩ := HL8.out rfl
  have KC2 := KC.out rfl
  have KD2 := KD.out rfl
  have KX2 := KX.out rfl
  have KI2 := KI.out rfl
  have HN92 := HN9.out rfl
  have HY2 := HY.out rfl
  have KC3 : Hid (∀ W, Below b w W → Calls Try.prog 43 #[.slice q L.length cap, .func (.func 44) #[] #[]] W fun e w' => ∃ v', e = .returned v' ∧ (SliceG w' W.heap.size v' L ∧ PlacedG v') ∧ Below W.heap.size W w') := KC2
  have KD3 : Hid (∀ (b1 b2 : Nat) (u : Value) (B : Nat) (W : World), SliceG W B u L → B ≤ W.heap.size → b1 < B → b2 < B → W.cell? ⟨b1, 0, none⟩ = some (.string tp) → W.cell? ⟨b1, 1, none⟩ = some (.string si) → W.cell? ⟨b2, 0, none⟩ = some (.int .i64 now) → Calls Try.prog 42 #[u, .func (.func 54) #[] #[.pointer (some ⟨b1, 0, none⟩), .pointer (some ⟨b2, 0, none⟩)]] W fun e w' => ∃ v', e = .returned v' ∧ (SliceG w' B v' Y ∧ (PlacedG u → PlacedG v')) ∧ Below B W w') := KD2
  have KX3 : Hid (∀ W, Calls Try.prog 44 #[.agg #[.string tp, .string si, .int .i64 un]] W fun e w' => e = .returned (.agg #[.string tp, .string si, .int .i64 un]) ∧ Below W.heap.size W w') := KX2
  have KI3 : Hid (∀ (u : Value) (B : Nat) (W : World), PlacedG u → SliceG W B u Y → Calls Try.prog 55 #[u, .agg #[.string tp, .string si, .int .i64 un], .func (.func 56) #[] #[]] W fun e w' => ∃ v', e = .returned v' ∧ SliceG w' W.heap.size v' YI ∧ Below W.heap.size W w') := KI2
  have HN93 : Hid (¬ Y.length < 8 → Z = noG 9) := HN92
  have HY3 : Hid (Y.length < 8 → Z = ⟨YI, false, 0⟩) := HY2
  clear KC KD KX KI HN9 HY HL8 HN1b KC2 KD2 KX2 KI2 HN92 HY2
  go_wp2_with fail
  refine (KC3.out _ B2.out).mono ?_
  rintro e w3 ⟨u3, rfl, ⟨hs3, hp3⟩, hb3⟩
  have S3 : Hid (SliceG w3 w2.heap.size u3 L) := hs3
  have P3 : Hid (PlacedG u3) := hp3
  have X3 : Hid (BoxG w3 (b + 1)) := X2.out.below hb3
  have B3 : Hid (Below b w w3) := B2.out.trans (hb3.mono (by omega))
  have k0 : w3.cell? ⟨bl, 0, none⟩ = some (.string tp) := ((bcell hb3).1 _ _ z2).trans m0
  have k1 : w3.cell? ⟨bl, 1, none⟩ = some (.string si) := ((bcell hb3).1 _ _ z2).trans m1
  have k2 : w3.cell? ⟨b, 0, none⟩ = some (.int .i64 now) := ((bcell hb3).1 _ _ (by omega)).trans m2
  have z3 : w2.heap.size ≤ w3.heap.size := hb3.size
  clear hs3 hp3 hb3 m0 m1 m2 X2 B2
  go_wp2_with fail
  refine (KD3.out bl b _ _ _ S3.out z3 z2 (by omega) k0 k1 k2).mono ?_
  rintro e w4 ⟨u4, rfl, ⟨hs4, hp4⟩, hb4⟩
  have S4 : Hid (SliceG w4 w2.heap.size u4 Y) := hs4
  have P4 : Hid (PlacedG u4) := hp4 P3.out
  have X4 : Hid (BoxG w4 (b + 1)) := X3.out.of_block (hb4.block _ (by omega)) hb4.size
  have B4 : Hid (Below b w w4) := B3.out.trans (hb4.mono (by omega))
  have j2 : w4.cell? ⟨b, 0, none⟩ = some (.int .i64 now) := (hb4.cell (p := ⟨b, 0, none⟩) (show b < w2.heap.size by omega)).trans k2
  have z4 : w2.heap.size ≤ w4.heap.size := Nat.le_trans z3 hb4.size
  obtain ⟨pu, cu, hu4⟩ : ∃ pu cu, u4 = .slice pu Y.length cu := by obtain ⟨⟨p, c, e, -⟩, -⟩ := hs4; exact ⟨p, c, e⟩
  clear hs4 hp4 hb4 k0 k1 k2 X3 B3 S3 P3 KD3 KC3
  subst hu4
  by_cases h8 : Y.length < 8
  case neg =>
    have HR : Hid (Z = noG 9) := HN93.out h8
    have e8 : Y.length = 8 := by omega
    have q8 : ((Y.length : Int) == 8) = true := by rw [beq_iff_eq]; omega
    obtain ⟨x0, x1, x2, f0, f1, f2, hlt⟩ := X4.out
    clear h8
    rw [e8] at *
    go_wp2
    refine bodyPost_ret (v := .agg #[.slice none 0 0, .bool false, .int .i64 9]) (by simp [results, Try.results18, go_sem, x0, x1, x2]) rfl ⟨_, rfl, ⟨_, by rw [HR.out]; rfl, by rw [HR.out]; exact sliceG_none _ _⟩, by rw [hbb]; exact B4.out.trans ((store3G_below (Below.refl (b + 1) w4)).mono (by omega))⟩
  have HR : Hid (Z = ⟨YI, false, 0⟩) := HY3.out h8
  have q8 : ((Y.length : Int) == 8) = false := by rw [beq_eq_false_iff_ne]; omega
  have hwr : IntKind.i64.wrap (now + 30) = now + 30 := by rw [IntKind.wrap_i64]; omega
  have hmin : ∀ (ts : Array TypeId) (ty : TypeId) (W : World), (Builtin.min_ ts ty #[.int .i64 (now + 30), .int .i64 1000000]).run Try.prog W = .ok (.int .i64 un) W := fun ts ty W => by
    have e : un = if 1000000 < now + 30 then 1000000 else now + 30 := by
      rw [HU.out]
      by_cases hc : now + 30 ≤ 1000000
      · rw [if_pos hc, if_neg (by omega)]
      · rw [if_neg hc, if_pos (by omega)]
    rw [e]
    simp [Builtin.min_, Builtin.min2, List.foldlM]
  clear HN93 HY3 HU
  go_wp2_with fail
  refine (KX3.out _).mono ?_
  rintro e w5 ⟨rfl, hb5⟩
  obtain ⟨W6, hV6⟩ : ∃ W6, W6 = w5.alloc (.cells #[.string tp, .string si, .int .i64 un] 62) := ⟨_, rfl⟩
  have hW6 : Hid (W6 = w5.alloc (.cells #[.string tp, .string si, .int .i64 un] 62)) := hV6
  have A6 : Below w4.heap.size w4 W6 := hb5.trans (by rw [hV6]; exact ((Below.refl _ _).alloc (Nat.le_refl _) _).mono hb5.size)
  have S6 : Hid (SliceG W6 w2.heap.size (.slice pu Y.length cu) Y) := S4.out.below A6
  have X6 : Hid (BoxG W6 (b + 1)) := X4.out.below A6
  have B6 : Hid (Below b w W6) := B4.out.trans (A6.mono (by omega))
  have i0 : W6.cell? ⟨w5.heap.size, 0, none⟩ = some (.string tp) := by rw [hV6]; simp
  have i1 : W6.cell? ⟨w5.heap.size, 1, none⟩ = some (.string si) := by rw [hV6]; simp
  have i2 : W6.cell? ⟨w5.heap.size, 2, none⟩ = some (.int .i64 un) := by rw [hV6]; simp
  have z6 : w2.heap.size ≤ W6.heap.size := Nat.le_trans z4 A6.size
  clear hV6 A6 hb5 S4 X4 B4 j2
  go_upto_region 10 with fail
  rw [← hW6.out]
  clear hW6
  go_wp2_with fail
  refine (KI3.out _ _ _ P4.out S6.out).mono ?_
  rintro e w7 ⟨u7, rfl, hs7, hb7⟩
  have S7 : Hid (SliceG w7 W6.heap.size u7 YI) := hs7
  have B7 : Hid (Below b w w7) := B6.out.trans (hb7.mono (by omega))
  obtain ⟨x0, x1, x2, f0, f1, f2, hlt⟩ := X6.out.below hb7
  obtain ⟨pq, cq, hu7⟩ : ∃ pq cq, u7 = .slice pq YI.length cq := by obtain ⟨⟨p, c, e, -⟩, -⟩ := hs7; exact ⟨p, c, e⟩
  clear hs7 hb7 S6 X6 B6
  subst hu7
  go_wp2
  refine bodyPost_ret (v := .agg #[.slice pq YI.length cq, .bool false, .int .i64 0]) (by simp [results, Try.results18, go_sem, x0, x1, x2]) rfl ⟨_, rfl, ⟨_, by rw [HR.out], by rw [HR.out, hbb]; exact (S7.out.store3 (by omega)).mono (by omega)⟩, by rw [hbb]; exact B7.out.trans ((store3G_below (Below.refl (b + 1) w7)).mono (by omega))⟩
end Go.Proofs.Ytehnklgpdjfcgaa
