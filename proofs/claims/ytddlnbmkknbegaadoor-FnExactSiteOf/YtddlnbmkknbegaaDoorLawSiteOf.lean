/- The law FnExactSiteOf, walked, over what the program's SiteOf answers. -/
import Derived.Test.YtddlnbmkknbegaaDoorSpecSite
import Derived.Test.YtddlnbmkknbegaaDoorCellsL
import Derived.Test.YtddlnbmkknbegaaDoorLawUrlAt
import Derived.Test.YtddlnbmkknbegaaDoorStrsIn
namespace Go.Proofs.YtddlnbmkknbegaaDoor
open Go.RowKit

set_option maxRecDepth 10000 in
set_option maxHeartbeats 8000000 in
theorem lawSiteOf_of (w : World) (hI : ∀ (v : Value) (n B : Nat) (f : Nat → ByteArray) (sc ho pa : ByteArray) (po : Int) (W : World), Below w.heap.size w W → SliceS W B v n f → n ≤ 1048576 → (∀ i, i < n → (f i).size ≤ 1048576) → ho.size ≤ 1048576 → Calls Tryd.prog 14 #[v, urlV sc ho pa po] W fun e w' => e = .returned (.string (siteOf n f sc ho pa po)) ∧ Below W.heap.size W w')
    (a : Option Addr) (n cap : Nat) (f : Nat → ByteArray) (sc ho pa : ByteArray) (po : Int) (hr : StrRow w a n f) (hn : n ≤ maxLen) (m1 : sc.size ≤ maxLen) (m2 : ho.size ≤ maxLen) (m3 : pa.size ≤ maxLen) :
    Calls Tryd.prog 8 #[.slice a n cap, urlV sc ho pa po] w fun e w' => e = .returned (.bool true) ∧ Below w.heap.size w w' := by
  have HR : Hid (StrRow w a n f) := hr
  have HI : Hid (∀ (v : Value) (n B : Nat) (f : Nat → ByteArray) (sc ho pa : ByteArray) (po : Int) (W : World), Below w.heap.size w W → SliceS W B v n f → n ≤ 1048576 → (∀ i, i < n → (f i).size ≤ 1048576) → ho.size ≤ 1048576 → Calls Tryd.prog 14 #[v, urlV sc ho pa po] W fun e w' => e = .returned (.string (siteOf n f sc ho pa po)) ∧ Below W.heap.size W w') := hI
  have HB0 : Hid (∀ t : TypeId, Below w.heap.size w (w.alloc (.cells #[.string sc, .string ho, .int .i64 po, .string pa] t))) := fun t => (Below.refl _ _).alloc (Nat.le_refl _) _
  have KU : Hid (∀ W, Calls Tryd.prog 32 #[.agg #[.string sc, .string ho, .int .i64 po, .string pa]] W fun e w' => e = .returned (.agg #[.string sc, .string ho, .int .i64 po, .string pa]) ∧ Below W.heap.size W w') := fun W => toUrl_any sc ho pa po W
  have Z1 : Hid (∀ (l : Int) (W : World), 0 ≤ l → l ≤ 1048576 → Calls Tryd.prog 31 #[.agg #[.string sc, .string ho, .int .i64 po, .string pa], .int .i64 l] W fun e w' => (∃ r : Int, e = .returned (.int .i64 r) ∧ (r < 0 ∨ (0 ≤ r ∧ r ≤ 1048576 ∧ sc.size + ho.size + pa.size ≤ 1048576))) ∧ Below W.heap.size W w') := fun l W a b => szUrl_at sc ho pa po l W m1 m2 m3 a b
  clear hI hr
  unfold urlV
  go_enter Tryd.func8, Tryd.ntmps8
  go_wp2_with fail
  have B0 : Hid (Below w.heap.size w (w.alloc (.cells #[.string sc, .string ho, .int .i64 po, .string pa] 45))) := HB0.out _
  have z0 : w.heap.size + 1 ≤ (w.alloc (.cells #[.string sc, .string ho, .int .i64 po, .string pa] 45)).heap.size := by simp
  have p00 : (w.alloc (.cells #[.string sc, .string ho, .int .i64 po, .string pa] 45)).cell? ⟨w.heap.size, 0, none⟩ = some (.string sc) := by simp
  have p01 : (w.alloc (.cells #[.string sc, .string ho, .int .i64 po, .string pa] 45)).cell? ⟨w.heap.size, 1, none⟩ = some (.string ho) := by simp
  have p02 : (w.alloc (.cells #[.string sc, .string ho, .int .i64 po, .string pa] 45)).cell? ⟨w.heap.size, 2, none⟩ = some (.int .i64 po) := by simp
  have p03 : (w.alloc (.cells #[.string sc, .string ho, .int .i64 po, .string pa] 45)).cell? ⟨w.heap.size, 3, none⟩ = some (.string pa) := by simp
  generalize (w.alloc (.cells #[.string sc, .string ho, .int .i64 po, .string pa] 45)) = w0 at *
  refine (szStringS_any a n cap f 1048576 _ (HR.out.below B0.out) hn (by decide) (by decide)).mono ?_
  rintro e w0' ⟨⟨r, rfl, hr⟩, rfl⟩
  rcases hr with hr | ⟨r0, r1, hl, hf⟩
  · go_wp2
    go_ret
    exact ⟨rfl, B0.out⟩
  have q0 : decide (r < 0) = false := by rw [decide_eq_false_iff_not]; omega
  have hl2 : n ≤ 1048576 := by omega
  have HF : Hid (∀ i, i < n → (f i).size ≤ 1048576) := fun i hi => by have := hf i hi; omega
  clear hf hl
  go_wp2_with fail
  refine (Z1.out r _ r0 r1).mono ?_
  rintro e w1 ⟨⟨s, rfl, hs⟩, hb1⟩
  have T1 := Cells.below (L := [(⟨w.heap.size, 0, none⟩, .string sc), (⟨w.heap.size, 1, none⟩, .string ho), (⟨w.heap.size, 2, none⟩, .int .i64 po), (⟨w.heap.size, 3, none⟩, .string pa)]) (by simp only [Cells]; go_keep) hb1
  simp only [Cells] at T1
  obtain ⟨p10, p11, p12, p13, -⟩ := T1
  have z1 : w.heap.size + 1 ≤ w1.heap.size := Nat.le_trans z0 hb1.size
  have B1 : Hid (Below w.heap.size w w1) := B0.out.trans (hb1.mono B0.out.size)
  clear hb1 z0 p00 p01 p02 p03
  rcases hs with hs | ⟨s0, s1, hs1⟩
  · go_wp2
    go_ret
    exact ⟨rfl, B1.out⟩
  have qs : decide (s < 0) = false := by rw [decide_eq_false_iff_not]; omega
  have KZ : Hid (∀ W, Below w.heap.size w W → Calls Tryd.prog 22 #[.slice a n cap] W fun e w' => ∃ v, e = .returned v ∧ SliceS w' W.heap.size v n f ∧ Below W.heap.size W w') := fun W b => toStringS_any a n cap f W (HR.out.below b) hl2
  have KS : Hid (∀ (v : Value) (B : Nat) (W : World), SliceS W B v n f → Calls Tryd.prog 15 #[v, .agg #[.string sc, .string ho, .int .i64 po, .string pa]] W fun e w' => e = .returned (.string (siteOf n f sc ho pa po)) ∧ Below W.heap.size W w') := fun v B W c => specSiteOf_any v n B f sc ho pa po W c hl2 HF.out
  have KI : Hid (∀ (v : Value) (B : Nat) (W : World), Below w.heap.size w W → SliceS W B v n f → Calls Tryd.prog 14 #[v, .agg #[.string sc, .string ho, .int .i64 po, .string pa]] W fun e w' => e = .returned (.string (siteOf n f sc ho pa po)) ∧ Below W.heap.size W w') := fun v B W b c => HI.out v n B f sc ho pa po W b c hl2 HF.out (by omega)
  clear HI Z1
  generalize siteOf n f sc ho pa po = R at *
  go_wp2_with fail
  refine wp_region_held_drew (S := (fun w' => w.heap.size + 1 ≤ w'.heap.size ∧ w'.cell? ⟨w.heap.size, 0, none⟩ = some (.string sc) ∧ w'.cell? ⟨w.heap.size, 1, none⟩ = some (.string ho) ∧ w'.cell? ⟨w.heap.size, 2, none⟩ = some (.int .i64 po) ∧ w'.cell? ⟨w.heap.size, 3, none⟩ = some (.string pa))) (by kernel_rfl) ?_ (fun hH0 => ?_)
  · (try dsimp only)
    go_keep
  refine wpAnyH_take (i := 0) (oi := { dst := some 19, op := Op.move (Operand.tmp 0), type := 23, pos := "exact.go:1866", after := #[], guard := none }) (v := ?va0) rfl (by kernel_rfl) (by kernel_rfl) (by kernel_rfl) (fun _ _ _ h => h) (Or.inl ⟨by rfl, ?hya0⟩) (by assumption) ?resta0
  case hya0 =>
    intro w hSw
    (try dsimp only at hSw)
    go_simp
    try with_reducible rfl
  try simp only [Act.put, List.setIfInBounds_toArray, List.set_cons_zero, List.set_cons_succ]
  refine wpAnyH_take (i := 2) (oi := { dst := some 21, op := Op.load 45 (Operand.tmp 3), type := 45, pos := "exact.go:1866", after := #[], guard := none }) (v := ?va2) rfl (by kernel_rfl) (by kernel_rfl) (by kernel_rfl) (fun _ _ _ h => h) (Or.inl ⟨by rfl, ?hya2⟩) (by assumption) ?resta2
  case hya2 =>
    intro w hSw
    (try dsimp only at hSw)
    go_simp
    try with_reducible rfl
  try simp only [Act.put, List.setIfInBounds_toArray, List.set_cons_zero, List.set_cons_succ]
  refine wpAnyH_ready (rs := [1]) (by kernel_rfl) (by simp) ?_
  refine AllReadyH.cons (o := { dst := some 20, op := Op.call { callee := Callee.value (Operand.func 22), args := #[Operand.tmp 19], argTypes := #[23] }, type := 23, pos := "exact.go:1866", after := #[{ on := 0, ground := Ground.data }], guard := none }) rfl (fun K hK => ?_) AllReadyH.nil
  go_simp
  (go_at_call 22; refine (KZ.out _ (B1.out.trans (Below.drew (Below.refl _ _)))).mono ?_; rintro e w3 ⟨v3, rfl, s3, hb3⟩; have T3 := Cells.below (L := [(⟨w.heap.size, 0, none⟩, .string sc), (⟨w.heap.size, 1, none⟩, .string ho), (⟨w.heap.size, 2, none⟩, .int .i64 po), (⟨w.heap.size, 3, none⟩, .string pa)]) (by simp only [Cells]; go_keep) hb3; simp only [Cells] at T3; obtain ⟨p30, p31, p32, p33, -⟩ := T3; have z3 : w.heap.size + 1 ≤ w3.heap.size := Nat.le_trans z1 hb3.size; have B3 : Hid (Below w.heap.size w w3) := (B1.out.trans (Below.drew (Below.refl _ _))).trans (hb3.mono (by have := B1.out.size; simpa using this)); have S3 := strip s3; clear s3)
  try (go_wp2_with fail)
  refine hK.out _ _ ?_ (fun hH1 => ?_)
  · (try dsimp only)
    go_keep
  clear hK K hH0
  try simp only [Act.put, List.setIfInBounds_toArray, List.set_cons_zero, List.set_cons_succ]
  refine wpAnyH_ready (rs := [3]) (by kernel_rfl) (by simp) ?_
  refine AllReadyH.cons (o := { dst := some 22, op := Op.call { callee := Callee.value (Operand.func 32), args := #[Operand.tmp 21], argTypes := #[45] }, type := 25, pos := "exact.go:1866", after := #[{ on := 2, ground := Ground.data }, { on := 1, ground := Ground.chain }], guard := none }) rfl (fun K hK => ?_) AllReadyH.nil
  go_simp
  (go_at_call 32; refine (KU.out _).mono ?_; rintro e w5 ⟨rfl, hb5⟩; have T5 := Cells.below (L := [(⟨w.heap.size, 0, none⟩, .string sc), (⟨w.heap.size, 1, none⟩, .string ho), (⟨w.heap.size, 2, none⟩, .int .i64 po), (⟨w.heap.size, 3, none⟩, .string pa)]) (by simp only [Cells]; go_keep) hb5; simp only [Cells] at T5; obtain ⟨p50, p51, p52, p53, -⟩ := T5; have z5 : w.heap.size + 1 ≤ w5.heap.size := Nat.le_trans z3 hb5.size; have B5 : Hid (Below w.heap.size w w5) := B3.out.trans (hb5.mono B3.out.size); have S5 := S3.below hb5; clear p30 p31 p32 p33 z3 hb3)
  try (go_wp2_with fail)
  refine hK.out _ _ ?_ (fun hH2 => ?_)
  · (try dsimp only)
    go_keep
  clear hK K hH1
  try simp only [Act.put, List.setIfInBounds_toArray, List.set_cons_zero, List.set_cons_succ]
  refine wpAnyH_ready (rs := [4]) (by kernel_rfl) (by simp) ?_
  refine AllReadyH.cons (o := { dst := some 23, op := Op.call { callee := Callee.value (Operand.func 15), args := #[Operand.tmp 20, Operand.tmp 22], argTypes := #[23, 25] }, type := 9, pos := "exact.go:1866", after := #[{ on := 1, ground := Ground.data }, { on := 3, ground := Ground.data }, { on := 3, ground := Ground.chain }], guard := none }) rfl (fun K hK => ?_) AllReadyH.nil
  go_simp
  (go_at_call 15; refine (KS.out v3 0 _ S5.out).mono ?_; rintro e w6 ⟨rfl, hb6⟩; have T6 := Cells.below (L := [(⟨w.heap.size, 0, none⟩, .string sc), (⟨w.heap.size, 1, none⟩, .string ho), (⟨w.heap.size, 2, none⟩, .int .i64 po), (⟨w.heap.size, 3, none⟩, .string pa)]) (by simp only [Cells]; go_keep) hb6; simp only [Cells] at T6; obtain ⟨p60, p61, p62, p63, -⟩ := T6; have z6 : w.heap.size + 1 ≤ w6.heap.size := Nat.le_trans z5 hb6.size; have B6 : Hid (Below w.heap.size w w6) := B5.out.trans (hb6.mono B5.out.size); clear p50 p51 p52 p53 z5 hb5)
  try (go_wp2_with fail)
  refine hK.out _ _ ?_ (fun hH3 => ?_)
  · (try dsimp only)
    go_keep
  clear hK K hH2
  try simp only [Act.put, List.setIfInBounds_toArray, List.set_cons_zero, List.set_cons_succ]
  refine wpAnyH_take (i := 5) (oi := { dst := some 6, op := Op.assign (Operand.tmp 23), type := 9, pos := "exact.go:1866", after := #[{ on := 4, ground := Ground.data }, { on := 4, ground := Ground.chain }, { on := 0, ground := Ground.phase }, { on := 1, ground := Ground.phase }, { on := 2, ground := Ground.phase }, { on := 3, ground := Ground.phase }, { on := 4, ground := Ground.phase }], guard := none }) (v := ?va5) rfl (by kernel_rfl) (by kernel_rfl) (by kernel_rfl) (fun _ _ _ h => h) (Or.inl ⟨by rfl, ?hya5⟩) (by assumption) ?resta5
  case hya5 =>
    intro w hSw
    (try dsimp only at hSw)
    go_simp
    try with_reducible rfl
  try simp only [Act.put, List.setIfInBounds_toArray, List.set_cons_zero, List.set_cons_succ]
  refine wpAnyH_done (by kernel_rfl) ?_ _
  clear S3 S5
  go_wp2_with fail
  refine (KZ.out _ B6.out).mono ?_
  rintro e w7 ⟨v7, rfl, s7, hb7⟩
  have S7 := strip s7
  have T7 := Cells.below (L := [(⟨w.heap.size, 0, none⟩, .string sc), (⟨w.heap.size, 1, none⟩, .string ho), (⟨w.heap.size, 2, none⟩, .int .i64 po), (⟨w.heap.size, 3, none⟩, .string pa)]) (by simp only [Cells]; go_keep) hb7
  simp only [Cells] at T7
  obtain ⟨p70, p71, p72, p73, -⟩ := T7
  have z7 : w.heap.size + 1 ≤ w7.heap.size := Nat.le_trans z6 hb7.size
  have B7 : Hid (Below w.heap.size w w7) := B6.out.trans (hb7.mono B6.out.size)
  clear s7 hb7 z6 hb6 p60 p61 p62 p63
  go_wp2_with fail
  refine (KU.out _).mono ?_
  rintro e w8 ⟨rfl, hb8⟩
  have S8 := S7.below hb8
  have B8 : Hid (Below w.heap.size w w8) := B7.out.trans (hb8.mono B7.out.size)
  clear hb8 S7
  go_wp2_with fail
  refine (KI.out v7 0 _ B8.out S8.out).mono ?_
  rintro e w10 ⟨rfl, hb10⟩
  have S10 := S8.below hb10
  have B10 : Hid (Below w.heap.size w w10) := B8.out.trans (hb10.mono B8.out.size)
  clear S8 hb10
  go_wp2_with fail
  refine (KZ.out _ B10.out).mono ?_
  rintro e w11 ⟨v11, rfl, s11, hb11⟩
  have S11 := S10.below hb11
  have B11 : Hid (Below w.heap.size w w11) := B10.out.trans (hb11.mono B10.out.size)
  clear hb11
  go_wp2_with fail
  refine (eqStringS_any v7 v11 n _ _ f _ S11.out s11 (by omega)).mono ?_
  rintro e w12 ⟨rfl, hb12⟩
  go_wp2
  go_ret
  exact ⟨rfl, B11.out.trans (hb12.mono B11.out.size)⟩
end Go.Proofs.YtddlnbmkknbegaaDoor
