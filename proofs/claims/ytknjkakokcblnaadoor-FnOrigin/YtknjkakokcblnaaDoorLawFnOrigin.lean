/- The law FnOrigin, walked, over what the program's functions answer. -/
import Derived.Test.YtknjkakokcblnaaDoorDrawOrigin
import Derived.Test.YtknjkakokcblnaaDoorOriginBack
namespace Go.Proofs.YtknjkakokcblnaaDoor
open Go.RowKit

/-- what these cells hold -/
def Cells (W : World) : List (Addr × Value) → Prop
  | [] => True
  | p :: L => W.cell? p.1 = some p.2 ∧ Cells W L
theorem Cells.below {W W' : World} : ∀ {L : List (Addr × Value)}, Cells W L → Below W.heap.size W W' → Cells W' L
  | [], _, _ => trivial
  | _ :: _, h, hb => ⟨(@Below.cell _ _ _ hb _ (cell_lt h.1)).trans h.1, Cells.below h.2 hb⟩
theorem originOf_form2 (sc ho pa : ByteArray) (po : Int) (h1 : sc.size ≤ 20) (h2 : ho.size ≤ 20) : ∃ x y z k, (if urlB sc ho pa po = true then originV sc ho po 0 else originV ⟨#[]⟩ ⟨#[]⟩ 0 0) = originV x y z k ∧ x.size ≤ 20 ∧ y.size ≤ 20 ∧ (urlB sc ho pa po = true → originB x y z k = true) ∧ (urlB sc ho pa po = true → originV sc ho po 0 = originV x y z k) := by
  by_cases hu : urlB sc ho pa po = true
  · exact ⟨sc, ho, po, 0, if_pos hu, h1, h2, fun _ => origin_of_right hu, fun _ => rfl⟩
  · exact ⟨⟨#[]⟩, ⟨#[]⟩, 0, 0, if_neg hu, by decide, by decide, fun h => absurd h hu, fun h => absurd h hu⟩
theorem Cells.join {W : World} : ∀ {L M : List (Addr × Value)}, Cells W L → Cells W M → Cells W (L ++ M)
  | [], _, _, h => h
  | _ :: _, _, h, k => ⟨h.1, Cells.join h.2 k⟩

set_option maxRecDepth 10000 in
set_option maxHeartbeats 16000000 in
theorem lawFnOrigin_of (w : World)
    (hS : ∀ (sc ho : ByteArray) (po no : Int) (sc2 ho2 : ByteArray) (po2 no2 : Int) (W : World), Below w.heap.size w W → sc.size + ho.size ≤ 1048576 → sc2.size + ho2.size ≤ 1048576 → Calls Tryd.prog 30 #[originV sc ho po no, originV sc2 ho2 po2 no2] W fun e w' => e = .returned (.bool (sameO sc ho po no sc2 ho2 po2 no2)) ∧ Below W.heap.size W w')
    (hO : ∀ (sc ho pa : ByteArray) (po : Int) (W : World), Below w.heap.size w W → sc.size + ho.size + pa.size ≤ 1048576 → Calls Tryd.prog 31 #[urlV sc ho pa po] W fun e w' => e = .returned (if urlB sc ho pa po = true then originV sc ho po 0 else originV ⟨#[]⟩ ⟨#[]⟩ 0 0) ∧ Below W.heap.size W w')
    (hT : ∀ (sc ho : ByteArray) (po no : Int) (W : World), Below w.heap.size w W → sc.size + ho.size ≤ 1048576 → Calls Tryd.prog 34 #[originV sc ho po no] W fun e w' => e = .returned (.string (originT sc ho po no)) ∧ Below W.heap.size W w')
    (hR : ∀ (sc ho : ByteArray) (po no : Int) (W : World), Below w.heap.size w W → sc.size + ho.size ≤ 1048576 → Calls Tryd.prog 36 #[originV sc ho po no] W fun e w' => e = .returned (.bool (originB sc ho po no)) ∧ Below W.heap.size W w')
    (a : Option Addr) (len cap : Nat) (a' : Option Addr) (len' cap' : Nat) (hr : len ≤ 1048576 → CodeRow w a len) (hr' : len' ≤ 1048576 → CodeRow w a' len') :
    Calls Tryd.prog 5 #[.slice a len cap, .slice a' len' cap'] w fun e w' => e = .returned (.bool true) ∧ Below w.heap.size w w' := by
  by_cases h1 : 1048576 < len
  · clear hS hO hT hR hr hr'
    go_enter Tryd.func5, Tryd.ntmps5
    go_wp2
    go_ret
    exact ⟨rfl, Below.refl _ _⟩
  have q1 : decide (1048576 < (len : Int)) = false := by rw [decide_eq_false_iff_not]; omega
  by_cases h2 : 1048576 < len'
  · clear hS hO hT hR hr hr'
    go_enter Tryd.func5, Tryd.ntmps5
    go_wp2
    go_ret
    exact ⟨rfl, Below.refl _ _⟩
  have q2 : decide (1048576 < (len' : Int)) = false := by rw [decide_eq_false_iff_not]; omega
  have R1 : Hid (CodeRow w a len) := hr (by omega)
  have R2 : Hid (CodeRow w a' len') := hr' (by omega)
  have HS : Hid (∀ (sc ho : ByteArray) (po no : Int) (sc2 ho2 : ByteArray) (po2 no2 : Int) (W : World), Below w.heap.size w W → sc.size + ho.size ≤ 1048576 → sc2.size + ho2.size ≤ 1048576 → Calls Tryd.prog 30 #[originV sc ho po no, originV sc2 ho2 po2 no2] W fun e w' => e = .returned (.bool (sameO sc ho po no sc2 ho2 po2 no2)) ∧ Below W.heap.size W w') := hS
  have HO : Hid (∀ (sc ho pa : ByteArray) (po : Int) (W : World), Below w.heap.size w W → sc.size + ho.size + pa.size ≤ 1048576 → Calls Tryd.prog 31 #[urlV sc ho pa po] W fun e w' => e = .returned (if urlB sc ho pa po = true then originV sc ho po 0 else originV ⟨#[]⟩ ⟨#[]⟩ 0 0) ∧ Below W.heap.size W w') := hO
  have HT : Hid (∀ (sc ho : ByteArray) (po no : Int) (W : World), Below w.heap.size w W → sc.size + ho.size ≤ 1048576 → Calls Tryd.prog 34 #[originV sc ho po no] W fun e w' => e = .returned (.string (originT sc ho po no)) ∧ Below W.heap.size W w') := hT
  have HR : Hid (∀ (sc ho : ByteArray) (po no : Int) (W : World), Below w.heap.size w W → sc.size + ho.size ≤ 1048576 → Calls Tryd.prog 36 #[originV sc ho po no] W fun e w' => e = .returned (.bool (originB sc ho po no)) ∧ Below W.heap.size W w') := hR
  clear hS hO hT hR hr hr'
  have l1 : len ≤ 1048576 := by omega
  have l2 : len' ≤ 1048576 := by omega
  go_enter Tryd.func5, Tryd.ntmps5
  go_wp2_with fail
  refine (drawOriginSame_any a len cap _ R1.out l1).mono ?_
  rintro e w1 ⟨⟨sc, ho, po, no, sc2, ho2, po2, no2, rfl, hsc, hho, hsc2, hho2⟩, hb1⟩
  have z1 := hb1.size
  unfold originV
  have B1 : Hid (∀ o o', Below w.heap.size w ((w1.alloc o).alloc o')) := fun o o' => (hb1.alloc z1 _).alloc (by simp; omega) _
  go_wp2_with fail
  refine (drawOriginOf_any a' len' cap' _ (R2.out.below (B1.out _ _)) l2).mono ?_
  rintro e w2 ⟨⟨us, uh, up, uo, rfl, hus, huh, hup⟩, hb2⟩
  have B2 : Hid (Below w.heap.size w w2) := (B1.out _ _).trans (hb2.mono (by simp; omega))
  have z2 : w1.heap.size + 1 < w2.heap.size := by have := hb2.size; simp at this; omega
  have z2a : w1.heap.size < w2.heap.size := by omega
  have C2 : Hid (Cells w2 [(⟨w1.heap.size, 0, none⟩, .string sc), (⟨w1.heap.size, 1, none⟩, .string ho), (⟨w1.heap.size, 2, none⟩, .int .i64 po), (⟨w1.heap.size, 3, none⟩, .int .i64 no), (⟨w1.heap.size + 1, 0, none⟩, .string sc2), (⟨w1.heap.size + 1, 1, none⟩, .string ho2), (⟨w1.heap.size + 1, 2, none⟩, .int .i64 po2), (⟨w1.heap.size + 1, 3, none⟩, .int .i64 no2)]) := by
    refine Cells.below ?_ hb2
    refine ⟨?_, ?_, ?_, ?_, ?_, ?_, ?_, ?_, trivial⟩
    · rw [World.cell?_alloc_lt _ _ ⟨w1.heap.size, 0, none⟩ (by simp)]; simp
    · rw [World.cell?_alloc_lt _ _ ⟨w1.heap.size, 1, none⟩ (by simp)]; simp
    · rw [World.cell?_alloc_lt _ _ ⟨w1.heap.size, 2, none⟩ (by simp)]; simp
    · rw [World.cell?_alloc_lt _ _ ⟨w1.heap.size, 3, none⟩ (by simp)]; simp
    · rw [World.cell?_alloc_at _ _ _ _ (by simp)]; rfl
    · rw [World.cell?_alloc_at _ _ _ _ (by simp)]; rfl
    · rw [World.cell?_alloc_at _ _ _ _ (by simp)]; rfl
    · rw [World.cell?_alloc_at _ _ _ _ (by simp)]; rfl
  clear hb1 hb2
  unfold urlV
  have G1 : Hid (∀ W, Below w.heap.size w W → Calls Tryd.prog 30 #[.agg #[.string sc, .string ho, .int .i64 po, .int .i64 no], .agg #[.string sc2, .string ho2, .int .i64 po2, .int .i64 no2]] W fun e w' => e = .returned (.bool (sameO sc ho po no sc2 ho2 po2 no2)) ∧ Below W.heap.size W w') := fun W hb => HS.out sc ho po no sc2 ho2 po2 no2 W hb (by omega) (by omega)
  have D2 := C2.out
  simp only [Cells] at D2
  obtain ⟨d0, d1, d2, d3, d4, d5, d6, d7, -⟩ := D2
  go_wp2_with fail
  refine (G1.out _ (B2.out.alloc (by omega) _)).mono ?_
  rintro e w3 ⟨rfl, hb3⟩
  have z3 : w2.heap.size < w3.heap.size := by have := hb3.size; simp at this; omega
  have C3 : Hid (Cells w3 [(⟨w1.heap.size, 0, none⟩, .string sc), (⟨w1.heap.size, 1, none⟩, .string ho), (⟨w1.heap.size, 2, none⟩, .int .i64 po), (⟨w1.heap.size, 3, none⟩, .int .i64 no), (⟨w1.heap.size + 1, 0, none⟩, .string sc2), (⟨w1.heap.size + 1, 1, none⟩, .string ho2), (⟨w1.heap.size + 1, 2, none⟩, .int .i64 po2), (⟨w1.heap.size + 1, 3, none⟩, .int .i64 no2), (⟨w2.heap.size, 0, none⟩, .string us), (⟨w2.heap.size, 1, none⟩, .string uh), (⟨w2.heap.size, 2, none⟩, .int .i64 uo), (⟨w2.heap.size, 3, none⟩, .string up)]) := (Cells.join (M := [(⟨w2.heap.size, 0, none⟩, .string us), (⟨w2.heap.size, 1, none⟩, .string uh), (⟨w2.heap.size, 2, none⟩, .int .i64 uo), (⟨w2.heap.size, 3, none⟩, .string up)]) (C2.out.below ((Below.refl _ _).alloc (Nat.le_refl _) _)) ⟨by simp, by simp, by simp, by simp, trivial⟩).below hb3
  have B3 : Hid (Below w.heap.size w w3) := (B2.out.alloc (by omega) _).trans (hb3.mono (by simp; omega))
  clear hb3 C2 d0 d1 d2 d3 d4 d5 d6 d7
  obtain ⟨x, y, z, k, ev, hx, hy, hur, huo⟩ := originOf_form2 us uh up uo hus huh
  have G2 : Hid (∀ W, Below w.heap.size w W → Calls Tryd.prog 31 #[.agg #[.string us, .string uh, .int .i64 uo, .string up]] W fun e w' => e = .returned (.agg #[.string x, .string y, .int .i64 z, .int .i64 k]) ∧ Below W.heap.size W w') := fun W hb => by
    have := HO.out us uh up uo W hb (by omega)
    rw [ev] at this; exact this
  have D3 := C3.out
  simp only [Cells] at D3
  obtain ⟨d0, d1, d2, d3, d4, d5, d6, d7, d8, d9, d10, d11, -⟩ := D3
  go_wp2_with fail
  refine (G2.out _ B3.out).mono ?_
  rintro e w4 ⟨rfl, hb4⟩
  have z4 := hb4.size
  have C4 : Hid (Cells (w4.alloc (.cells #[.string x, .string y, .int .i64 z, .int .i64 k] 47)) [(⟨w1.heap.size, 0, none⟩, .string sc), (⟨w1.heap.size, 1, none⟩, .string ho), (⟨w1.heap.size, 2, none⟩, .int .i64 po), (⟨w1.heap.size, 3, none⟩, .int .i64 no), (⟨w1.heap.size + 1, 0, none⟩, .string sc2), (⟨w1.heap.size + 1, 1, none⟩, .string ho2), (⟨w1.heap.size + 1, 2, none⟩, .int .i64 po2), (⟨w1.heap.size + 1, 3, none⟩, .int .i64 no2), (⟨w2.heap.size, 0, none⟩, .string us), (⟨w2.heap.size, 1, none⟩, .string uh), (⟨w2.heap.size, 2, none⟩, .int .i64 uo), (⟨w2.heap.size, 3, none⟩, .string up), (⟨w4.heap.size, 0, none⟩, .string x), (⟨w4.heap.size, 1, none⟩, .string y), (⟨w4.heap.size, 2, none⟩, .int .i64 z), (⟨w4.heap.size, 3, none⟩, .int .i64 k)]) := Cells.join (M := [(⟨w4.heap.size, 0, none⟩, .string x), (⟨w4.heap.size, 1, none⟩, .string y), (⟨w4.heap.size, 2, none⟩, .int .i64 z), (⟨w4.heap.size, 3, none⟩, .int .i64 k)]) ((C3.out.below hb4).below ((Below.refl _ _).alloc (Nat.le_refl _) _)) ⟨by simp, by simp, by simp, by simp, trivial⟩
  have B4 : Hid (Below w.heap.size w (w4.alloc (.cells #[.string x, .string y, .int .i64 z, .int .i64 k] 47))) := (B3.out.trans (hb4.mono B3.out.size)).alloc (by have := B3.out.size; omega) _
  have z5 : w4.heap.size + 1 ≤ (w4.alloc (.cells #[.string x, .string y, .int .i64 z, .int .i64 k] 47)).heap.size := by simp
  clear hb4 C3 d0 d1 d2 d3 d4 d5 d6 d7 d8 d9 d10 d11
  have K1 : Hid (∀ W, Calls Tryd.prog 32 #[.agg #[.string sc, .string ho, .int .i64 po, .int .i64 no], .agg #[.string sc2, .string ho2, .int .i64 po2, .int .i64 no2]] W fun e w' => e = .returned (.bool (sameO sc ho po no sc2 ho2 po2 no2)) ∧ Below W.heap.size W w') := fun W => specOriginSame_any sc ho po no sc2 ho2 po2 no2 W
  have K2 : Hid (∀ W, Calls Tryd.prog 33 #[.agg #[.string us, .string uh, .int .i64 uo, .string up]] W fun e w' => e = .returned (.agg #[.string x, .string y, .int .i64 z, .int .i64 k]) ∧ Below W.heap.size W w') := fun W => by
    have := specOriginOf_any us uh up uo W
    rw [ev] at this; exact this
  have K3 : Hid (∀ W, Below w.heap.size w W → Calls Tryd.prog 34 #[.agg #[.string sc, .string ho, .int .i64 po, .int .i64 no]] W fun e w' => e = .returned (.string (originT sc ho po no)) ∧ Below W.heap.size W w') := fun W hb => HT.out sc ho po no W hb (by omega)
  have K4 : Hid (∀ W, Calls Tryd.prog 35 #[.agg #[.string sc, .string ho, .int .i64 po, .int .i64 no]] W fun e w' => e = .returned (.string (originT sc ho po no)) ∧ Below W.heap.size W w') := fun W => specOriginText_any sc ho po no W
  have K5 : Hid (∀ W, Below w.heap.size w W → Calls Tryd.prog 34 #[.agg #[.string sc2, .string ho2, .int .i64 po2, .int .i64 no2]] W fun e w' => e = .returned (.string (originT sc2 ho2 po2 no2)) ∧ Below W.heap.size W w') := fun W hb => HT.out sc2 ho2 po2 no2 W hb (by omega)
  have K6 : Hid (∀ W, Calls Tryd.prog 35 #[.agg #[.string sc2, .string ho2, .int .i64 po2, .int .i64 no2]] W fun e w' => e = .returned (.string (originT sc2 ho2 po2 no2)) ∧ Below W.heap.size W w') := fun W => specOriginText_any sc2 ho2 po2 no2 W
  have K7 : Hid (∀ W, Below w.heap.size w W → Calls Tryd.prog 36 #[.agg #[.string sc, .string ho, .int .i64 po, .int .i64 no]] W fun e w' => e = .returned (.bool (originB sc ho po no)) ∧ Below W.heap.size W w') := fun W hb => HR.out sc ho po no W hb (by omega)
  have K8 : Hid (∀ W, Calls Tryd.prog 37 #[.agg #[.string sc, .string ho, .int .i64 po, .int .i64 no]] W fun e w' => e = .returned (.bool (originB sc ho po no)) ∧ Below W.heap.size W w') := fun W => specOriginRight_any sc ho po no W
  have K9 : Hid (∀ W, Calls Tryd.prog 37 #[.agg #[.string sc2, .string ho2, .int .i64 po2, .int .i64 no2]] W fun e w' => e = .returned (.bool (originB sc2 ho2 po2 no2)) ∧ Below W.heap.size W w') := fun W => specOriginRight_any sc2 ho2 po2 no2 W
  have K10 : Hid (∀ W, Calls Tryd.prog 21 #[.agg #[.string us, .string uh, .int .i64 uo, .string up]] W fun e w' => e = .returned (.bool (urlB us uh up uo)) ∧ Below W.heap.size W w') := fun W => specUrlRight_any us uh up uo W
  have K11 : Hid (urlB us uh up uo = true → ∀ W, Below w.heap.size w W → Calls Tryd.prog 31 #[.agg #[.string us, .string uh, .int .i64 uo, .string ⟨#[47, 101, 108, 115, 101]⟩]] W fun e w' => e = .returned (.agg #[.string x, .string y, .int .i64 z, .int .i64 k]) ∧ Below W.heap.size W w') := fun hu W hb => by
    have := HO.out us uh ⟨#[47, 101, 108, 115, 101]⟩ uo W hb (by show _ + _ + 5 ≤ _; omega)
    rw [if_pos (url_else hu), huo hu] at this
    exact this
  have K12 : Hid (urlB us uh up uo = true → ∀ W, Below w.heap.size w W → Calls Tryd.prog 36 #[.agg #[.string x, .string y, .int .i64 z, .int .i64 k]] W fun e w' => e = .returned (.bool true) ∧ Below W.heap.size W w') := fun hu W hb => by
    have := HR.out x y z k W hb (by omega)
    rw [hur hu] at this; exact this
  have HX : Hid (originB sc ho po no = true → originB sc2 ho2 po2 no2 = true → ((originT sc ho po no).toList == (originT sc2 ho2 po2 no2).toList) = sameO sc ho po no sc2 ho2 po2 no2) := fun h1 h2 => (sameO_text h1 h2).symm
  have E4 := C4.out
  simp only [Cells] at E4
  obtain ⟨e0, e1, e2, e3, e4, e5, e6, e7, e8, e9, e10, e11, e12, e13, e14, e15, -⟩ := E4
  go_wp2_with fail
  clear HS HO HT HR G1 G2 ev hx hy hur huo
  generalize w4.alloc (.cells #[.string x, .string y, .int .i64 z, .int .i64 k] 47) = w5 at *
  have B5 : Hid (Below w.heap.size w w5) := B4.out
  clear B4 C4 B1 B2 B3 R1 R2
  generalize sameO sc ho po no sc2 ho2 po2 no2 = same at *
  generalize originT sc ho po no = ta at *
  generalize originT sc2 ho2 po2 no2 = tb at *
  generalize originB sc ho po no = ra at *
  generalize originB sc2 ho2 po2 no2 = rb at *
  generalize hu : urlB us uh up uo = ru at *
  clear hu
  refine wp_region_held_drew (S := (fun w' => w4.heap.size + 1 ≤ w'.heap.size ∧ w'.cell? ⟨w1.heap.size, 0, none⟩ = some (.string sc) ∧ w'.cell? ⟨w1.heap.size, 1, none⟩ = some (.string ho) ∧ w'.cell? ⟨w1.heap.size, 2, none⟩ = some (.int .i64 po) ∧ w'.cell? ⟨w1.heap.size, 3, none⟩ = some (.int .i64 no) ∧ w'.cell? ⟨w1.heap.size + 1, 0, none⟩ = some (.string sc2) ∧ w'.cell? ⟨w1.heap.size + 1, 1, none⟩ = some (.string ho2) ∧ w'.cell? ⟨w1.heap.size + 1, 2, none⟩ = some (.int .i64 po2) ∧ w'.cell? ⟨w1.heap.size + 1, 3, none⟩ = some (.int .i64 no2) ∧ w'.cell? ⟨w2.heap.size, 0, none⟩ = some (.string us) ∧ w'.cell? ⟨w2.heap.size, 1, none⟩ = some (.string uh) ∧ w'.cell? ⟨w2.heap.size, 2, none⟩ = some (.int .i64 uo) ∧ w'.cell? ⟨w2.heap.size, 3, none⟩ = some (.string up) ∧ w'.cell? ⟨w4.heap.size, 0, none⟩ = some (.string x) ∧ w'.cell? ⟨w4.heap.size, 1, none⟩ = some (.string y) ∧ w'.cell? ⟨w4.heap.size, 2, none⟩ = some (.int .i64 z) ∧ w'.cell? ⟨w4.heap.size, 3, none⟩ = some (.int .i64 k))) (by kernel_rfl) ?_ (fun hH0 => ?_)
  · (try dsimp only)
    go_keep
  refine wpAnyH_take (i := 0) (oi := { dst := some 31, op := Op.move (Operand.tmp 8), type := 4, pos := "laws.go:97", after := #[], guard := none }) (v := ?va0) rfl (by kernel_rfl) (by kernel_rfl) (by kernel_rfl) (fun _ _ _ h => h) (Or.inl ⟨by rfl, ?hya0⟩) (by assumption) ?resta0
  case hya0 =>
    intro w hSw
    (try dsimp only at hSw)
    go_simp
    try with_reducible rfl
  try simp only [Act.put, List.setIfInBounds_toArray, List.set_cons_zero, List.set_cons_succ]
  refine wpAnyH_take (i := 1) (oi := { dst := some 32, op := Op.load 47 (Operand.tmp 5), type := 47, pos := "laws.go:97", after := #[], guard := none }) (v := ?va1) rfl (by kernel_rfl) (by kernel_rfl) (by kernel_rfl) (fun _ _ _ h => h) (Or.inl ⟨by rfl, ?hya1⟩) (by assumption) ?resta1
  case hya1 =>
    intro w hSw
    (try dsimp only at hSw)
    go_simp
    try with_reducible rfl
  try simp only [Act.put, List.setIfInBounds_toArray, List.set_cons_zero, List.set_cons_succ]
  refine wpAnyH_take (i := 2) (oi := { dst := some 33, op := Op.load 47 (Operand.tmp 6), type := 47, pos := "laws.go:97", after := #[], guard := none }) (v := ?va2) rfl (by kernel_rfl) (by kernel_rfl) (by kernel_rfl) (fun _ _ _ h => h) (Or.inl ⟨by rfl, ?hya2⟩) (by assumption) ?resta2
  case hya2 =>
    intro w hSw
    (try dsimp only at hSw)
    go_simp
    try with_reducible rfl
  try simp only [Act.put, List.setIfInBounds_toArray, List.set_cons_zero, List.set_cons_succ]
  refine wpAnyH_ready (rs := [3]) (by kernel_rfl) (by simp) ?_
  refine AllReadyH.cons (o := { dst := some 34, op := Op.call { callee := Callee.value (Operand.func 32), args := #[Operand.tmp 32, Operand.tmp 33], argTypes := #[47, 47] }, type := 4, pos := "laws.go:97", after := #[{ on := 1, ground := Ground.data }, { on := 2, ground := Ground.data }], guard := none }) rfl (fun K hK => ?_) AllReadyH.nil
  go_simp
  (go_at_call 32; refine (K1.out _).mono ?_; rintro e wA ⟨rfl, hbA⟩; have TA := Cells.below (L := [(⟨w1.heap.size, 0, none⟩, .string sc), (⟨w1.heap.size, 1, none⟩, .string ho), (⟨w1.heap.size, 2, none⟩, .int .i64 po), (⟨w1.heap.size, 3, none⟩, .int .i64 no), (⟨w1.heap.size + 1, 0, none⟩, .string sc2), (⟨w1.heap.size + 1, 1, none⟩, .string ho2), (⟨w1.heap.size + 1, 2, none⟩, .int .i64 po2), (⟨w1.heap.size + 1, 3, none⟩, .int .i64 no2), (⟨w2.heap.size, 0, none⟩, .string us), (⟨w2.heap.size, 1, none⟩, .string uh), (⟨w2.heap.size, 2, none⟩, .int .i64 uo), (⟨w2.heap.size, 3, none⟩, .string up), (⟨w4.heap.size, 0, none⟩, .string x), (⟨w4.heap.size, 1, none⟩, .string y), (⟨w4.heap.size, 2, none⟩, .int .i64 z), (⟨w4.heap.size, 3, none⟩, .int .i64 k)]) (by simp only [Cells]; go_keep) hbA; simp only [Cells] at TA; obtain ⟨pA0, pA1, pA2, pA3, pA4, pA5, pA6, pA7, pA8, pA9, pA10, pA11, pA12, pA13, pA14, pA15, -⟩ := TA; have zA : w4.heap.size + 1 ≤ wA.heap.size := Nat.le_trans z5 hbA.size; have BA : Hid (Below w.heap.size w wA) := (B5.out.trans (Below.drew (Below.refl _ _))).trans (hbA.mono (by have := B5.out.size; simpa using this)))
  try (go_wp2_with fail)
  refine hK.out _ _ ?_ (fun hH1 => ?_)
  · (try dsimp only)
    go_keep
  clear hK K hH0
  try simp only [Act.put, List.setIfInBounds_toArray, List.set_cons_zero, List.set_cons_succ]
  refine wpAnyH_take (i := 4) (oi := { dst := some 35, op := Op.binOp BinOp.neq 4 (Operand.tmp 31) (Operand.tmp 34) 4, type := 4, pos := "laws.go:97", after := #[{ on := 0, ground := Ground.data }, { on := 3, ground := Ground.data }], guard := none }) (v := ?va4) rfl (by kernel_rfl) (by kernel_rfl) (by kernel_rfl) (fun _ _ _ h => h) (Or.inl ⟨by rfl, ?hya4⟩) (by assumption) ?resta4
  case hya4 =>
    intro w hSw
    (try dsimp only at hSw)
    go_simp
    try with_reducible rfl
  try simp only [Act.put, List.setIfInBounds_toArray, List.set_cons_zero, List.set_cons_succ]
  refine wpAnyH_take (i := 5) (oi := { dst := some 36, op := Op.move (Operand.tmp 35), type := 4, pos := "laws.go:97", after := #[{ on := 4, ground := Ground.data }, { on := 3, ground := Ground.chain }], guard := none }) (v := ?va5) rfl (by kernel_rfl) (by kernel_rfl) (by kernel_rfl) (fun _ _ _ h => h) (Or.inl ⟨by rfl, ?hya5⟩) (by assumption) ?resta5
  case hya5 =>
    intro w hSw
    (try dsimp only at hSw)
    go_simp
    try with_reducible rfl
  try simp only [Act.put, List.setIfInBounds_toArray, List.set_cons_zero, List.set_cons_succ]
  refine wpAnyH_take (i := 6) (oi := { dst := some 37, op := Op.load 47 (Operand.tmp 9), type := 47, pos := "laws.go:97", after := #[{ on := 5, ground := Ground.guard }], guard := some (5, false) }) (v := ?va6) rfl (by kernel_rfl) (by kernel_rfl) (by kernel_rfl) (fun _ _ _ h => h) (Or.inl ⟨by rfl, ?hya6⟩) (by assumption) ?resta6
  case hya6 =>
    intro w hSw
    (try dsimp only at hSw)
    go_simp
    try with_reducible rfl
  try simp only [Act.put, List.setIfInBounds_toArray, List.set_cons_zero, List.set_cons_succ]
  refine wpAnyH_take (i := 7) (oi := { dst := some 38, op := Op.load 35 (Operand.tmp 7), type := 35, pos := "laws.go:97", after := #[{ on := 5, ground := Ground.guard }], guard := some (5, false) }) (v := ?va7) rfl (by kernel_rfl) (by kernel_rfl) (by kernel_rfl) (fun _ _ _ h => h) (Or.inl ⟨by rfl, ?hya7⟩) (by assumption) ?resta7
  case hya7 =>
    intro w hSw
    (try dsimp only at hSw)
    go_simp
    try with_reducible rfl
  try simp only [Act.put, List.setIfInBounds_toArray, List.set_cons_zero, List.set_cons_succ]
  refine wpAnyH_ready (rs := [8]) (by kernel_rfl) (by simp) ?_
  refine AllReadyH.cons (o := { dst := some 39, op := Op.call { callee := Callee.value (Operand.func 33), args := #[Operand.tmp 38], argTypes := #[35] }, type := 47, pos := "laws.go:97", after := #[{ on := 7, ground := Ground.data }, { on := 5, ground := Ground.chain }, { on := 5, ground := Ground.guard }], guard := some (5, false) }) rfl (fun K hK => ?_) AllReadyH.nil
  go_simp
  (go_at_call 33; refine (K2.out _).mono ?_; rintro e wB ⟨rfl, hbB⟩; have TB := Cells.below (L := [(⟨w1.heap.size, 0, none⟩, .string sc), (⟨w1.heap.size, 1, none⟩, .string ho), (⟨w1.heap.size, 2, none⟩, .int .i64 po), (⟨w1.heap.size, 3, none⟩, .int .i64 no), (⟨w1.heap.size + 1, 0, none⟩, .string sc2), (⟨w1.heap.size + 1, 1, none⟩, .string ho2), (⟨w1.heap.size + 1, 2, none⟩, .int .i64 po2), (⟨w1.heap.size + 1, 3, none⟩, .int .i64 no2), (⟨w2.heap.size, 0, none⟩, .string us), (⟨w2.heap.size, 1, none⟩, .string uh), (⟨w2.heap.size, 2, none⟩, .int .i64 uo), (⟨w2.heap.size, 3, none⟩, .string up), (⟨w4.heap.size, 0, none⟩, .string x), (⟨w4.heap.size, 1, none⟩, .string y), (⟨w4.heap.size, 2, none⟩, .int .i64 z), (⟨w4.heap.size, 3, none⟩, .int .i64 k)]) (by simp only [Cells]; go_keep) hbB; simp only [Cells] at TB; obtain ⟨pB0, pB1, pB2, pB3, pB4, pB5, pB6, pB7, pB8, pB9, pB10, pB11, pB12, pB13, pB14, pB15, -⟩ := TB; have zB : w4.heap.size + 1 ≤ wB.heap.size := Nat.le_trans zA hbB.size; have BB : Hid (Below w.heap.size w wB) := BA.out.trans (hbB.mono BA.out.size); clear pA0 pA1 pA2 pA3 pA4 pA5 pA6 pA7 pA8 pA9 pA10 pA11 pA12 pA13 pA14 pA15 zA hbA)
  try (go_wp2_with fail)
  refine hK.out _ _ ?_ (fun hH2 => ?_)
  · (try dsimp only)
    go_keep
  clear hK K hH1
  try simp only [Act.put, List.setIfInBounds_toArray, List.set_cons_zero, List.set_cons_succ]
  refine wpAnyH_take (i := 9) (oi := { dst := some 40, op := Op.binOp BinOp.neq 47 (Operand.tmp 37) (Operand.tmp 39) 47, type := 4, pos := "laws.go:97", after := #[{ on := 6, ground := Ground.data }, { on := 8, ground := Ground.data }, { on := 5, ground := Ground.guard }], guard := some (5, false) }) (v := ?va9) rfl (by kernel_rfl) (by kernel_rfl) (by kernel_rfl) (fun _ _ _ h => h) (Or.inl ⟨by rfl, ?hya9⟩) (by assumption) ?resta9
  case hya9 =>
    intro w hSw
    (try dsimp only at hSw)
    go_simp
    try with_reducible rfl
  try simp only [Act.put, List.setIfInBounds_toArray, List.set_cons_zero, List.set_cons_succ]
  refine wpAnyH_take (i := 10) (oi := { dst := some 41, op := Op.pick (Operand.tmp 36) (Operand.const (Value.bool true)) (Operand.tmp 40), type := 4, pos := "laws.go:97", after := #[{ on := 5, ground := Ground.data }, { on := 9, ground := Ground.data }], guard := none }) (v := ?va10) rfl (by kernel_rfl) (by kernel_rfl) (by kernel_rfl) (fun _ _ _ h => h) (Or.inl ⟨by rfl, ?hya10⟩) (by assumption) ?resta10
  case hya10 =>
    intro w hSw
    (try dsimp only at hSw)
    go_simp
    try with_reducible rfl
  try simp only [Act.put, List.setIfInBounds_toArray, List.set_cons_zero, List.set_cons_succ]
  refine wpAnyH_take (i := 11) (oi := { dst := some 42, op := Op.move (Operand.tmp 41), type := 4, pos := "laws.go:97", after := #[{ on := 10, ground := Ground.data }, { on := 8, ground := Ground.chain }], guard := none }) (v := ?va11) rfl (by kernel_rfl) (by kernel_rfl) (by kernel_rfl) (fun _ _ _ h => h) (Or.inl ⟨by rfl, ?hya11⟩) (by assumption) ?resta11
  case hya11 =>
    intro w hSw
    (try dsimp only at hSw)
    go_simp
    try with_reducible rfl
  try simp only [Act.put, List.setIfInBounds_toArray, List.set_cons_zero, List.set_cons_succ]
  refine wpAnyH_take (i := 12) (oi := { dst := some 43, op := Op.load 47 (Operand.tmp 5), type := 47, pos := "laws.go:97", after := #[{ on := 11, ground := Ground.guard }], guard := some (11, false) }) (v := ?va12) rfl (by kernel_rfl) (by kernel_rfl) (by kernel_rfl) (fun _ _ _ h => h) (Or.inl ⟨by rfl, ?hya12⟩) (by assumption) ?resta12
  case hya12 =>
    intro w hSw
    (try dsimp only at hSw)
    go_simp
    try with_reducible rfl
  try simp only [Act.put, List.setIfInBounds_toArray, List.set_cons_zero, List.set_cons_succ]
  refine wpAnyH_take (i := 14) (oi := { dst := some 45, op := Op.load 47 (Operand.tmp 5), type := 47, pos := "laws.go:97", after := #[{ on := 11, ground := Ground.guard }], guard := some (11, false) }) (v := ?va14) rfl (by kernel_rfl) (by kernel_rfl) (by kernel_rfl) (fun _ _ _ h => h) (Or.inl ⟨by rfl, ?hya14⟩) (by assumption) ?resta14
  case hya14 =>
    intro w hSw
    (try dsimp only at hSw)
    go_simp
    try with_reducible rfl
  try simp only [Act.put, List.setIfInBounds_toArray, List.set_cons_zero, List.set_cons_succ]
  refine wpAnyH_ready (rs := [13]) (by kernel_rfl) (by simp) ?_
  refine AllReadyH.cons (o := { dst := some 44, op := Op.call { callee := Callee.value (Operand.func 34), args := #[Operand.tmp 43], argTypes := #[47] }, type := 9, pos := "laws.go:97", after := #[{ on := 12, ground := Ground.data }, { on := 11, ground := Ground.chain }, { on := 11, ground := Ground.guard }], guard := some (11, false) }) rfl (fun K hK => ?_) AllReadyH.nil
  go_simp
  (go_at_call 34; refine (K3.out _ BB.out).mono ?_; rintro e wC ⟨rfl, hbC⟩; have TC := Cells.below (L := [(⟨w1.heap.size, 0, none⟩, .string sc), (⟨w1.heap.size, 1, none⟩, .string ho), (⟨w1.heap.size, 2, none⟩, .int .i64 po), (⟨w1.heap.size, 3, none⟩, .int .i64 no), (⟨w1.heap.size + 1, 0, none⟩, .string sc2), (⟨w1.heap.size + 1, 1, none⟩, .string ho2), (⟨w1.heap.size + 1, 2, none⟩, .int .i64 po2), (⟨w1.heap.size + 1, 3, none⟩, .int .i64 no2), (⟨w2.heap.size, 0, none⟩, .string us), (⟨w2.heap.size, 1, none⟩, .string uh), (⟨w2.heap.size, 2, none⟩, .int .i64 uo), (⟨w2.heap.size, 3, none⟩, .string up), (⟨w4.heap.size, 0, none⟩, .string x), (⟨w4.heap.size, 1, none⟩, .string y), (⟨w4.heap.size, 2, none⟩, .int .i64 z), (⟨w4.heap.size, 3, none⟩, .int .i64 k)]) (by simp only [Cells]; go_keep) hbC; simp only [Cells] at TC; obtain ⟨pC0, pC1, pC2, pC3, pC4, pC5, pC6, pC7, pC8, pC9, pC10, pC11, pC12, pC13, pC14, pC15, -⟩ := TC; have zC : w4.heap.size + 1 ≤ wC.heap.size := Nat.le_trans zB hbC.size; have BC : Hid (Below w.heap.size w wC) := BB.out.trans (hbC.mono BB.out.size); clear pB0 pB1 pB2 pB3 pB4 pB5 pB6 pB7 pB8 pB9 pB10 pB11 pB12 pB13 pB14 pB15 zB hbB)
  try (go_wp2_with fail)
  refine hK.out _ _ ?_ (fun hH3 => ?_)
  · (try dsimp only)
    go_keep
  clear hK K hH2
  try simp only [Act.put, List.setIfInBounds_toArray, List.set_cons_zero, List.set_cons_succ]
  refine wpAnyH_ready (rs := [15]) (by kernel_rfl) (by simp) ?_
  refine AllReadyH.cons (o := { dst := some 46, op := Op.call { callee := Callee.value (Operand.func 35), args := #[Operand.tmp 45], argTypes := #[47] }, type := 9, pos := "laws.go:97", after := #[{ on := 14, ground := Ground.data }, { on := 13, ground := Ground.chain }, { on := 11, ground := Ground.guard }], guard := some (11, false) }) rfl (fun K hK => ?_) AllReadyH.nil
  go_simp
  (go_at_call 35; refine (K4.out _).mono ?_; rintro e wD ⟨rfl, hbD⟩; have TD := Cells.below (L := [(⟨w1.heap.size, 0, none⟩, .string sc), (⟨w1.heap.size, 1, none⟩, .string ho), (⟨w1.heap.size, 2, none⟩, .int .i64 po), (⟨w1.heap.size, 3, none⟩, .int .i64 no), (⟨w1.heap.size + 1, 0, none⟩, .string sc2), (⟨w1.heap.size + 1, 1, none⟩, .string ho2), (⟨w1.heap.size + 1, 2, none⟩, .int .i64 po2), (⟨w1.heap.size + 1, 3, none⟩, .int .i64 no2), (⟨w2.heap.size, 0, none⟩, .string us), (⟨w2.heap.size, 1, none⟩, .string uh), (⟨w2.heap.size, 2, none⟩, .int .i64 uo), (⟨w2.heap.size, 3, none⟩, .string up), (⟨w4.heap.size, 0, none⟩, .string x), (⟨w4.heap.size, 1, none⟩, .string y), (⟨w4.heap.size, 2, none⟩, .int .i64 z), (⟨w4.heap.size, 3, none⟩, .int .i64 k)]) (by simp only [Cells]; go_keep) hbD; simp only [Cells] at TD; obtain ⟨pD0, pD1, pD2, pD3, pD4, pD5, pD6, pD7, pD8, pD9, pD10, pD11, pD12, pD13, pD14, pD15, -⟩ := TD; have zD : w4.heap.size + 1 ≤ wD.heap.size := Nat.le_trans zC hbD.size; have BD : Hid (Below w.heap.size w wD) := BC.out.trans (hbD.mono BC.out.size); clear pC0 pC1 pC2 pC3 pC4 pC5 pC6 pC7 pC8 pC9 pC10 pC11 pC12 pC13 pC14 pC15 zC hbC)
  try (go_wp2_with fail)
  refine hK.out _ _ ?_ (fun hH4 => ?_)
  · (try dsimp only)
    go_keep
  clear hK K hH3
  try simp only [Act.put, List.setIfInBounds_toArray, List.set_cons_zero, List.set_cons_succ]
  refine wpAnyH_take (i := 16) (oi := { dst := some 47, op := Op.binOp BinOp.neq 9 (Operand.tmp 44) (Operand.tmp 46) 9, type := 4, pos := "laws.go:97", after := #[{ on := 13, ground := Ground.data }, { on := 15, ground := Ground.data }, { on := 11, ground := Ground.guard }], guard := some (11, false) }) (v := ?va16) rfl (by kernel_rfl) (by kernel_rfl) (by kernel_rfl) (fun _ _ _ h => h) (Or.inl ⟨by rfl, ?hya16⟩) (by assumption) ?resta16
  case hya16 =>
    intro w hSw
    (try dsimp only at hSw)
    go_simp
    try with_reducible rfl
  try simp only [Act.put, List.setIfInBounds_toArray, List.set_cons_zero, List.set_cons_succ]
  refine wpAnyH_take (i := 17) (oi := { dst := some 48, op := Op.pick (Operand.tmp 42) (Operand.const (Value.bool true)) (Operand.tmp 47), type := 4, pos := "laws.go:97", after := #[{ on := 11, ground := Ground.data }, { on := 16, ground := Ground.data }], guard := none }) (v := ?va17) rfl (by kernel_rfl) (by kernel_rfl) (by kernel_rfl) (fun _ _ _ h => h) (Or.inl ⟨by rfl, ?hya17⟩) (by assumption) ?resta17
  case hya17 =>
    intro w hSw
    (try dsimp only at hSw)
    go_simp
    try with_reducible rfl
  try simp only [Act.put, List.setIfInBounds_toArray, List.set_cons_zero, List.set_cons_succ]
  refine wpAnyH_take (i := 18) (oi := { dst := some 49, op := Op.move (Operand.tmp 48), type := 4, pos := "laws.go:97", after := #[{ on := 17, ground := Ground.data }, { on := 15, ground := Ground.chain }], guard := none }) (v := ?va18) rfl (by kernel_rfl) (by kernel_rfl) (by kernel_rfl) (fun _ _ _ h => h) (Or.inl ⟨by rfl, ?hya18⟩) (by assumption) ?resta18
  case hya18 =>
    intro w hSw
    (try dsimp only at hSw)
    go_simp
    try with_reducible rfl
  try simp only [Act.put, List.setIfInBounds_toArray, List.set_cons_zero, List.set_cons_succ]
  refine wpAnyH_take (i := 19) (oi := { dst := some 50, op := Op.load 47 (Operand.tmp 6), type := 47, pos := "laws.go:97", after := #[{ on := 18, ground := Ground.guard }], guard := some (18, false) }) (v := ?va19) rfl (by kernel_rfl) (by kernel_rfl) (by kernel_rfl) (fun _ _ _ h => h) (Or.inl ⟨by rfl, ?hya19⟩) (by assumption) ?resta19
  case hya19 =>
    intro w hSw
    (try dsimp only at hSw)
    go_simp
    try with_reducible rfl
  try simp only [Act.put, List.setIfInBounds_toArray, List.set_cons_zero, List.set_cons_succ]
  refine wpAnyH_take (i := 21) (oi := { dst := some 52, op := Op.load 47 (Operand.tmp 6), type := 47, pos := "laws.go:97", after := #[{ on := 18, ground := Ground.guard }], guard := some (18, false) }) (v := ?va21) rfl (by kernel_rfl) (by kernel_rfl) (by kernel_rfl) (fun _ _ _ h => h) (Or.inl ⟨by rfl, ?hya21⟩) (by assumption) ?resta21
  case hya21 =>
    intro w hSw
    (try dsimp only at hSw)
    go_simp
    try with_reducible rfl
  try simp only [Act.put, List.setIfInBounds_toArray, List.set_cons_zero, List.set_cons_succ]
  refine wpAnyH_ready (rs := [20]) (by kernel_rfl) (by simp) ?_
  refine AllReadyH.cons (o := { dst := some 51, op := Op.call { callee := Callee.value (Operand.func 34), args := #[Operand.tmp 50], argTypes := #[47] }, type := 9, pos := "laws.go:97", after := #[{ on := 19, ground := Ground.data }, { on := 18, ground := Ground.chain }, { on := 18, ground := Ground.guard }], guard := some (18, false) }) rfl (fun K hK => ?_) AllReadyH.nil
  go_simp
  (go_at_call 34; refine (K5.out _ BD.out).mono ?_; rintro e wE ⟨rfl, hbE⟩; have TE := Cells.below (L := [(⟨w1.heap.size, 0, none⟩, .string sc), (⟨w1.heap.size, 1, none⟩, .string ho), (⟨w1.heap.size, 2, none⟩, .int .i64 po), (⟨w1.heap.size, 3, none⟩, .int .i64 no), (⟨w1.heap.size + 1, 0, none⟩, .string sc2), (⟨w1.heap.size + 1, 1, none⟩, .string ho2), (⟨w1.heap.size + 1, 2, none⟩, .int .i64 po2), (⟨w1.heap.size + 1, 3, none⟩, .int .i64 no2), (⟨w2.heap.size, 0, none⟩, .string us), (⟨w2.heap.size, 1, none⟩, .string uh), (⟨w2.heap.size, 2, none⟩, .int .i64 uo), (⟨w2.heap.size, 3, none⟩, .string up), (⟨w4.heap.size, 0, none⟩, .string x), (⟨w4.heap.size, 1, none⟩, .string y), (⟨w4.heap.size, 2, none⟩, .int .i64 z), (⟨w4.heap.size, 3, none⟩, .int .i64 k)]) (by simp only [Cells]; go_keep) hbE; simp only [Cells] at TE; obtain ⟨pE0, pE1, pE2, pE3, pE4, pE5, pE6, pE7, pE8, pE9, pE10, pE11, pE12, pE13, pE14, pE15, -⟩ := TE; have zE : w4.heap.size + 1 ≤ wE.heap.size := Nat.le_trans zD hbE.size; have BE : Hid (Below w.heap.size w wE) := BD.out.trans (hbE.mono BD.out.size); clear pD0 pD1 pD2 pD3 pD4 pD5 pD6 pD7 pD8 pD9 pD10 pD11 pD12 pD13 pD14 pD15 zD hbD)
  try (go_wp2_with fail)
  refine hK.out _ _ ?_ (fun hH5 => ?_)
  · (try dsimp only)
    go_keep
  clear hK K hH4
  try simp only [Act.put, List.setIfInBounds_toArray, List.set_cons_zero, List.set_cons_succ]
  refine wpAnyH_ready (rs := [22]) (by kernel_rfl) (by simp) ?_
  refine AllReadyH.cons (o := { dst := some 53, op := Op.call { callee := Callee.value (Operand.func 35), args := #[Operand.tmp 52], argTypes := #[47] }, type := 9, pos := "laws.go:97", after := #[{ on := 21, ground := Ground.data }, { on := 20, ground := Ground.chain }, { on := 18, ground := Ground.guard }], guard := some (18, false) }) rfl (fun K hK => ?_) AllReadyH.nil
  go_simp
  (go_at_call 35; refine (K6.out _).mono ?_; rintro e wF ⟨rfl, hbF⟩; have TF := Cells.below (L := [(⟨w1.heap.size, 0, none⟩, .string sc), (⟨w1.heap.size, 1, none⟩, .string ho), (⟨w1.heap.size, 2, none⟩, .int .i64 po), (⟨w1.heap.size, 3, none⟩, .int .i64 no), (⟨w1.heap.size + 1, 0, none⟩, .string sc2), (⟨w1.heap.size + 1, 1, none⟩, .string ho2), (⟨w1.heap.size + 1, 2, none⟩, .int .i64 po2), (⟨w1.heap.size + 1, 3, none⟩, .int .i64 no2), (⟨w2.heap.size, 0, none⟩, .string us), (⟨w2.heap.size, 1, none⟩, .string uh), (⟨w2.heap.size, 2, none⟩, .int .i64 uo), (⟨w2.heap.size, 3, none⟩, .string up), (⟨w4.heap.size, 0, none⟩, .string x), (⟨w4.heap.size, 1, none⟩, .string y), (⟨w4.heap.size, 2, none⟩, .int .i64 z), (⟨w4.heap.size, 3, none⟩, .int .i64 k)]) (by simp only [Cells]; go_keep) hbF; simp only [Cells] at TF; obtain ⟨pF0, pF1, pF2, pF3, pF4, pF5, pF6, pF7, pF8, pF9, pF10, pF11, pF12, pF13, pF14, pF15, -⟩ := TF; have zF : w4.heap.size + 1 ≤ wF.heap.size := Nat.le_trans zE hbF.size; have BF : Hid (Below w.heap.size w wF) := BE.out.trans (hbF.mono BE.out.size); clear pE0 pE1 pE2 pE3 pE4 pE5 pE6 pE7 pE8 pE9 pE10 pE11 pE12 pE13 pE14 pE15 zE hbE)
  try (go_wp2_with fail)
  refine hK.out _ _ ?_ (fun hH6 => ?_)
  · (try dsimp only)
    go_keep
  clear hK K hH5
  try simp only [Act.put, List.setIfInBounds_toArray, List.set_cons_zero, List.set_cons_succ]
  refine wpAnyH_take (i := 23) (oi := { dst := some 54, op := Op.binOp BinOp.neq 9 (Operand.tmp 51) (Operand.tmp 53) 9, type := 4, pos := "laws.go:97", after := #[{ on := 20, ground := Ground.data }, { on := 22, ground := Ground.data }, { on := 18, ground := Ground.guard }], guard := some (18, false) }) (v := ?va23) rfl (by kernel_rfl) (by kernel_rfl) (by kernel_rfl) (fun _ _ _ h => h) (Or.inl ⟨by rfl, ?hya23⟩) (by assumption) ?resta23
  case hya23 =>
    intro w hSw
    (try dsimp only at hSw)
    go_simp
    try with_reducible rfl
  try simp only [Act.put, List.setIfInBounds_toArray, List.set_cons_zero, List.set_cons_succ]
  refine wpAnyH_take (i := 24) (oi := { dst := some 55, op := Op.pick (Operand.tmp 49) (Operand.const (Value.bool true)) (Operand.tmp 54), type := 4, pos := "laws.go:97", after := #[{ on := 18, ground := Ground.data }, { on := 23, ground := Ground.data }], guard := none }) (v := ?va24) rfl (by kernel_rfl) (by kernel_rfl) (by kernel_rfl) (fun _ _ _ h => h) (Or.inl ⟨by rfl, ?hya24⟩) (by assumption) ?resta24
  case hya24 =>
    intro w hSw
    (try dsimp only at hSw)
    go_simp
    try with_reducible rfl
  try simp only [Act.put, List.setIfInBounds_toArray, List.set_cons_zero, List.set_cons_succ]
  refine wpAnyH_take (i := 25) (oi := { dst := some 56, op := Op.move (Operand.tmp 55), type := 4, pos := "laws.go:97", after := #[{ on := 24, ground := Ground.data }, { on := 22, ground := Ground.chain }], guard := none }) (v := ?va25) rfl (by kernel_rfl) (by kernel_rfl) (by kernel_rfl) (fun _ _ _ h => h) (Or.inl ⟨by rfl, ?hya25⟩) (by assumption) ?resta25
  case hya25 =>
    intro w hSw
    (try dsimp only at hSw)
    go_simp
    try with_reducible rfl
  try simp only [Act.put, List.setIfInBounds_toArray, List.set_cons_zero, List.set_cons_succ]
  refine wpAnyH_take (i := 26) (oi := { dst := some 57, op := Op.load 47 (Operand.tmp 5), type := 47, pos := "laws.go:97", after := #[{ on := 25, ground := Ground.guard }], guard := some (25, false) }) (v := ?va26) rfl (by kernel_rfl) (by kernel_rfl) (by kernel_rfl) (fun _ _ _ h => h) (Or.inl ⟨by rfl, ?hya26⟩) (by assumption) ?resta26
  case hya26 =>
    intro w hSw
    (try dsimp only at hSw)
    go_simp
    try with_reducible rfl
  try simp only [Act.put, List.setIfInBounds_toArray, List.set_cons_zero, List.set_cons_succ]
  refine wpAnyH_take (i := 28) (oi := { dst := some 59, op := Op.load 47 (Operand.tmp 5), type := 47, pos := "laws.go:97", after := #[{ on := 25, ground := Ground.guard }], guard := some (25, false) }) (v := ?va28) rfl (by kernel_rfl) (by kernel_rfl) (by kernel_rfl) (fun _ _ _ h => h) (Or.inl ⟨by rfl, ?hya28⟩) (by assumption) ?resta28
  case hya28 =>
    intro w hSw
    (try dsimp only at hSw)
    go_simp
    try with_reducible rfl
  try simp only [Act.put, List.setIfInBounds_toArray, List.set_cons_zero, List.set_cons_succ]
  refine wpAnyH_ready (rs := [27]) (by kernel_rfl) (by simp) ?_
  refine AllReadyH.cons (o := { dst := some 58, op := Op.call { callee := Callee.value (Operand.func 36), args := #[Operand.tmp 57], argTypes := #[47] }, type := 4, pos := "laws.go:97", after := #[{ on := 26, ground := Ground.data }, { on := 25, ground := Ground.chain }, { on := 25, ground := Ground.guard }], guard := some (25, false) }) rfl (fun K hK => ?_) AllReadyH.nil
  go_simp
  (go_at_call 36; refine (K7.out _ BF.out).mono ?_; rintro e wG ⟨rfl, hbG⟩; have TG := Cells.below (L := [(⟨w1.heap.size, 0, none⟩, .string sc), (⟨w1.heap.size, 1, none⟩, .string ho), (⟨w1.heap.size, 2, none⟩, .int .i64 po), (⟨w1.heap.size, 3, none⟩, .int .i64 no), (⟨w1.heap.size + 1, 0, none⟩, .string sc2), (⟨w1.heap.size + 1, 1, none⟩, .string ho2), (⟨w1.heap.size + 1, 2, none⟩, .int .i64 po2), (⟨w1.heap.size + 1, 3, none⟩, .int .i64 no2), (⟨w2.heap.size, 0, none⟩, .string us), (⟨w2.heap.size, 1, none⟩, .string uh), (⟨w2.heap.size, 2, none⟩, .int .i64 uo), (⟨w2.heap.size, 3, none⟩, .string up), (⟨w4.heap.size, 0, none⟩, .string x), (⟨w4.heap.size, 1, none⟩, .string y), (⟨w4.heap.size, 2, none⟩, .int .i64 z), (⟨w4.heap.size, 3, none⟩, .int .i64 k)]) (by simp only [Cells]; go_keep) hbG; simp only [Cells] at TG; obtain ⟨pG0, pG1, pG2, pG3, pG4, pG5, pG6, pG7, pG8, pG9, pG10, pG11, pG12, pG13, pG14, pG15, -⟩ := TG; have zG : w4.heap.size + 1 ≤ wG.heap.size := Nat.le_trans zF hbG.size; have BG : Hid (Below w.heap.size w wG) := BF.out.trans (hbG.mono BF.out.size); clear pF0 pF1 pF2 pF3 pF4 pF5 pF6 pF7 pF8 pF9 pF10 pF11 pF12 pF13 pF14 pF15 zF hbF)
  try (go_wp2_with fail)
  refine hK.out _ _ ?_ (fun hH7 => ?_)
  · (try dsimp only)
    go_keep
  clear hK K hH6
  try simp only [Act.put, List.setIfInBounds_toArray, List.set_cons_zero, List.set_cons_succ]
  refine wpAnyH_ready (rs := [29]) (by kernel_rfl) (by simp) ?_
  refine AllReadyH.cons (o := { dst := some 60, op := Op.call { callee := Callee.value (Operand.func 37), args := #[Operand.tmp 59], argTypes := #[47] }, type := 4, pos := "laws.go:97", after := #[{ on := 28, ground := Ground.data }, { on := 27, ground := Ground.chain }, { on := 25, ground := Ground.guard }], guard := some (25, false) }) rfl (fun K hK => ?_) AllReadyH.nil
  go_simp
  (go_at_call 37; refine (K8.out _).mono ?_; rintro e wH ⟨rfl, hbH⟩; have TH := Cells.below (L := [(⟨w1.heap.size, 0, none⟩, .string sc), (⟨w1.heap.size, 1, none⟩, .string ho), (⟨w1.heap.size, 2, none⟩, .int .i64 po), (⟨w1.heap.size, 3, none⟩, .int .i64 no), (⟨w1.heap.size + 1, 0, none⟩, .string sc2), (⟨w1.heap.size + 1, 1, none⟩, .string ho2), (⟨w1.heap.size + 1, 2, none⟩, .int .i64 po2), (⟨w1.heap.size + 1, 3, none⟩, .int .i64 no2), (⟨w2.heap.size, 0, none⟩, .string us), (⟨w2.heap.size, 1, none⟩, .string uh), (⟨w2.heap.size, 2, none⟩, .int .i64 uo), (⟨w2.heap.size, 3, none⟩, .string up), (⟨w4.heap.size, 0, none⟩, .string x), (⟨w4.heap.size, 1, none⟩, .string y), (⟨w4.heap.size, 2, none⟩, .int .i64 z), (⟨w4.heap.size, 3, none⟩, .int .i64 k)]) (by simp only [Cells]; go_keep) hbH; simp only [Cells] at TH; obtain ⟨pH0, pH1, pH2, pH3, pH4, pH5, pH6, pH7, pH8, pH9, pH10, pH11, pH12, pH13, pH14, pH15, -⟩ := TH; have zH : w4.heap.size + 1 ≤ wH.heap.size := Nat.le_trans zG hbH.size; have BH : Hid (Below w.heap.size w wH) := BG.out.trans (hbH.mono BG.out.size); clear pG0 pG1 pG2 pG3 pG4 pG5 pG6 pG7 pG8 pG9 pG10 pG11 pG12 pG13 pG14 pG15 zG hbG)
  try (go_wp2_with fail)
  refine hK.out _ _ ?_ (fun hH8 => ?_)
  · (try dsimp only)
    go_keep
  clear hK K hH7
  try simp only [Act.put, List.setIfInBounds_toArray, List.set_cons_zero, List.set_cons_succ]
  refine wpAnyH_take (i := 30) (oi := { dst := some 61, op := Op.binOp BinOp.neq 4 (Operand.tmp 58) (Operand.tmp 60) 4, type := 4, pos := "laws.go:97", after := #[{ on := 27, ground := Ground.data }, { on := 29, ground := Ground.data }, { on := 25, ground := Ground.guard }], guard := some (25, false) }) (v := ?va30) rfl (by kernel_rfl) (by kernel_rfl) (by kernel_rfl) (fun _ _ _ h => h) (Or.inl ⟨by rfl, ?hya30⟩) (by assumption) ?resta30
  case hya30 =>
    intro w hSw
    (try dsimp only at hSw)
    go_simp
    try with_reducible rfl
  try simp only [Act.put, List.setIfInBounds_toArray, List.set_cons_zero, List.set_cons_succ]
  refine wpAnyH_take (i := 31) (oi := { dst := some 62, op := Op.pick (Operand.tmp 56) (Operand.const (Value.bool true)) (Operand.tmp 61), type := 4, pos := "laws.go:97", after := #[{ on := 25, ground := Ground.data }, { on := 30, ground := Ground.data }], guard := none }) (v := ?va31) rfl (by kernel_rfl) (by kernel_rfl) (by kernel_rfl) (fun _ _ _ h => h) (Or.inl ⟨by rfl, ?hya31⟩) (by assumption) ?resta31
  case hya31 =>
    intro w hSw
    (try dsimp only at hSw)
    go_simp
    try with_reducible rfl
  try simp only [Act.put, List.setIfInBounds_toArray, List.set_cons_zero, List.set_cons_succ]
  refine wpAnyH_done (by kernel_rfl) ?_ _
  clear BA
  clear BB
  clear BC
  clear BD
  clear BE
  clear BF
  clear BG
  clear hbH e0 e1 e2 e3 e4 e5 e6 e7 e8 e9 e10 e11 e12 e13 e14 e15
  go_wp2_with fail
  obtain ⟨wv, hwv⟩ : ∃ n, n = wH.heap.size := ⟨_, rfl⟩
  have CV : Hid (Cells (wH.alloc (.cells #[.string us, .string uh, .int .i64 uo, .string ⟨#[47, 101, 108, 115, 101]⟩] 35)) [(⟨w1.heap.size, 0, none⟩, .string sc), (⟨w1.heap.size, 1, none⟩, .string ho), (⟨w1.heap.size, 2, none⟩, .int .i64 po), (⟨w1.heap.size, 3, none⟩, .int .i64 no), (⟨w1.heap.size + 1, 0, none⟩, .string sc2), (⟨w1.heap.size + 1, 1, none⟩, .string ho2), (⟨w1.heap.size + 1, 2, none⟩, .int .i64 po2), (⟨w1.heap.size + 1, 3, none⟩, .int .i64 no2), (⟨w2.heap.size, 0, none⟩, .string us), (⟨w2.heap.size, 1, none⟩, .string uh), (⟨w2.heap.size, 2, none⟩, .int .i64 uo), (⟨w2.heap.size, 3, none⟩, .string up), (⟨w4.heap.size, 0, none⟩, .string x), (⟨w4.heap.size, 1, none⟩, .string y), (⟨w4.heap.size, 2, none⟩, .int .i64 z), (⟨w4.heap.size, 3, none⟩, .int .i64 k), (⟨wv, 0, none⟩, .string us), (⟨wv, 1, none⟩, .string uh), (⟨wv, 2, none⟩, .int .i64 uo), (⟨wv, 3, none⟩, .string ⟨#[47, 101, 108, 115, 101]⟩)]) := by
    rw [hwv]
    exact Cells.join (M := [(⟨wH.heap.size, 0, none⟩, .string us), (⟨wH.heap.size, 1, none⟩, .string uh), (⟨wH.heap.size, 2, none⟩, .int .i64 uo), (⟨wH.heap.size, 3, none⟩, .string ⟨#[47, 101, 108, 115, 101]⟩)]) (Cells.below (L := [(⟨w1.heap.size, 0, none⟩, .string sc), (⟨w1.heap.size, 1, none⟩, .string ho), (⟨w1.heap.size, 2, none⟩, .int .i64 po), (⟨w1.heap.size, 3, none⟩, .int .i64 no), (⟨w1.heap.size + 1, 0, none⟩, .string sc2), (⟨w1.heap.size + 1, 1, none⟩, .string ho2), (⟨w1.heap.size + 1, 2, none⟩, .int .i64 po2), (⟨w1.heap.size + 1, 3, none⟩, .int .i64 no2), (⟨w2.heap.size, 0, none⟩, .string us), (⟨w2.heap.size, 1, none⟩, .string uh), (⟨w2.heap.size, 2, none⟩, .int .i64 uo), (⟨w2.heap.size, 3, none⟩, .string up), (⟨w4.heap.size, 0, none⟩, .string x), (⟨w4.heap.size, 1, none⟩, .string y), (⟨w4.heap.size, 2, none⟩, .int .i64 z), (⟨w4.heap.size, 3, none⟩, .int .i64 k)]) (by simp only [Cells]; go_keep) ((Below.refl _ _).alloc (Nat.le_refl _) _)) ⟨by simp, by simp, by simp, by simp, trivial⟩
  have B9 : Hid (Below w.heap.size w (wH.alloc (.cells #[.string us, .string uh, .int .i64 uo, .string ⟨#[47, 101, 108, 115, 101]⟩] 35))) := BH.out.alloc BH.out.size _
  have z9 : wv + 1 ≤ (wH.alloc (.cells #[.string us, .string uh, .int .i64 uo, .string ⟨#[47, 101, 108, 115, 101]⟩] 35)).heap.size := by simp; omega
  clear pH0 pH1 pH2 pH3 pH4 pH5 pH6 pH7 pH8 pH9 pH10 pH11 pH12 pH13 pH14 pH15 zH BH
  rw [← hwv]
  generalize wH.alloc (.cells #[.string us, .string uh, .int .i64 uo, .string ⟨#[47, 101, 108, 115, 101]⟩] 35) = w9 at *
  clear hwv
  have E9 := CV.out
  simp only [Cells] at E9
  obtain ⟨f0, f1, f2, f3, f4, f5, f6, f7, f8, f9, f10, f11, f12, f13, f14, f15, f16, f17, f18, f19, -⟩ := E9
  clear CV
  cases ru with
  | true =>
    have K11t := K11.out rfl
    have K12t := K12.out rfl
    have KV : Hid _ := K11t
    have KO : Hid _ := K12t
    clear K11 K12 K11t K12t
    refine wp_region_held_drew (S := (fun w' => wv + 1 ≤ w'.heap.size ∧ w'.cell? ⟨w1.heap.size, 0, none⟩ = some (.string sc) ∧ w'.cell? ⟨w1.heap.size, 1, none⟩ = some (.string ho) ∧ w'.cell? ⟨w1.heap.size, 2, none⟩ = some (.int .i64 po) ∧ w'.cell? ⟨w1.heap.size, 3, none⟩ = some (.int .i64 no) ∧ w'.cell? ⟨w1.heap.size + 1, 0, none⟩ = some (.string sc2) ∧ w'.cell? ⟨w1.heap.size + 1, 1, none⟩ = some (.string ho2) ∧ w'.cell? ⟨w1.heap.size + 1, 2, none⟩ = some (.int .i64 po2) ∧ w'.cell? ⟨w1.heap.size + 1, 3, none⟩ = some (.int .i64 no2) ∧ w'.cell? ⟨w2.heap.size, 0, none⟩ = some (.string us) ∧ w'.cell? ⟨w2.heap.size, 1, none⟩ = some (.string uh) ∧ w'.cell? ⟨w2.heap.size, 2, none⟩ = some (.int .i64 uo) ∧ w'.cell? ⟨w2.heap.size, 3, none⟩ = some (.string up) ∧ w'.cell? ⟨w4.heap.size, 0, none⟩ = some (.string x) ∧ w'.cell? ⟨w4.heap.size, 1, none⟩ = some (.string y) ∧ w'.cell? ⟨w4.heap.size, 2, none⟩ = some (.int .i64 z) ∧ w'.cell? ⟨w4.heap.size, 3, none⟩ = some (.int .i64 k) ∧ w'.cell? ⟨wv, 0, none⟩ = some (.string us) ∧ w'.cell? ⟨wv, 1, none⟩ = some (.string uh) ∧ w'.cell? ⟨wv, 2, none⟩ = some (.int .i64 uo) ∧ w'.cell? ⟨wv, 3, none⟩ = some (.string ⟨#[47, 101, 108, 115, 101]⟩))) (by kernel_rfl) ?_ (fun hH0 => ?_)
    · (try dsimp only)
      go_keep
    refine wpAnyH_take (i := 0) (oi := { dst := some 65, op := Op.load 35 (Operand.tmp 7), type := 35, pos := "laws.go:102", after := #[], guard := none }) (v := ?vb0) rfl (by kernel_rfl) (by kernel_rfl) (by kernel_rfl) (fun _ _ _ h => h) (Or.inl ⟨by rfl, ?hyb0⟩) (by assumption) ?restb0
    case hyb0 =>
      intro w hSw
      (try dsimp only at hSw)
      go_simp
      try with_reducible rfl
    try simp only [Act.put, List.setIfInBounds_toArray, List.set_cons_zero, List.set_cons_succ]
    refine wpAnyH_ready (rs := [1]) (by kernel_rfl) (by simp) ?_
    refine AllReadyH.cons (o := { dst := some 66, op := Op.call { callee := Callee.value (Operand.func 21), args := #[Operand.tmp 65], argTypes := #[35] }, type := 4, pos := "laws.go:102", after := #[{ on := 0, ground := Ground.data }], guard := none }) rfl (fun K hK => ?_) AllReadyH.nil
    go_simp
    (go_at_call 21; refine (K10.out _).mono ?_; rintro e wI ⟨rfl, hbI⟩; have TI := Cells.below (L := [(⟨w1.heap.size, 0, none⟩, .string sc), (⟨w1.heap.size, 1, none⟩, .string ho), (⟨w1.heap.size, 2, none⟩, .int .i64 po), (⟨w1.heap.size, 3, none⟩, .int .i64 no), (⟨w1.heap.size + 1, 0, none⟩, .string sc2), (⟨w1.heap.size + 1, 1, none⟩, .string ho2), (⟨w1.heap.size + 1, 2, none⟩, .int .i64 po2), (⟨w1.heap.size + 1, 3, none⟩, .int .i64 no2), (⟨w2.heap.size, 0, none⟩, .string us), (⟨w2.heap.size, 1, none⟩, .string uh), (⟨w2.heap.size, 2, none⟩, .int .i64 uo), (⟨w2.heap.size, 3, none⟩, .string up), (⟨w4.heap.size, 0, none⟩, .string x), (⟨w4.heap.size, 1, none⟩, .string y), (⟨w4.heap.size, 2, none⟩, .int .i64 z), (⟨w4.heap.size, 3, none⟩, .int .i64 k), (⟨wv, 0, none⟩, .string us), (⟨wv, 1, none⟩, .string uh), (⟨wv, 2, none⟩, .int .i64 uo), (⟨wv, 3, none⟩, .string ⟨#[47, 101, 108, 115, 101]⟩)]) (by simp only [Cells]; go_keep) hbI; simp only [Cells] at TI; obtain ⟨pI0, pI1, pI2, pI3, pI4, pI5, pI6, pI7, pI8, pI9, pI10, pI11, pI12, pI13, pI14, pI15, pI16, pI17, pI18, pI19, -⟩ := TI; have zI : wv + 1 ≤ wI.heap.size := Nat.le_trans z9 hbI.size; have BI : Hid (Below w.heap.size w wI) := (B9.out.trans (Below.drew (Below.refl _ _))).trans (hbI.mono (by have := B9.out.size; simpa using this)))
    try (go_wp2_with fail)
    refine hK.out _ _ ?_ (fun hH1 => ?_)
    · (try dsimp only)
      go_keep
    clear hK K hH0
    try simp only [Act.put, List.setIfInBounds_toArray, List.set_cons_zero, List.set_cons_succ]
    refine wpAnyH_take (i := 2) (oi := { dst := some 67, op := Op.move (Operand.tmp 66), type := 4, pos := "laws.go:102", after := #[{ on := 1, ground := Ground.data }, { on := 1, ground := Ground.chain }], guard := none }) (v := ?vb2) rfl (by kernel_rfl) (by kernel_rfl) (by kernel_rfl) (fun _ _ _ h => h) (Or.inl ⟨by rfl, ?hyb2⟩) (by assumption) ?restb2
    case hyb2 =>
      intro w hSw
      (try dsimp only at hSw)
      go_simp
      try with_reducible rfl
    try simp only [Act.put, List.setIfInBounds_toArray, List.set_cons_zero, List.set_cons_succ]
    refine wpAnyH_take (i := 3) (oi := { dst := some 68, op := Op.load 35 (Operand.tmp 10), type := 35, pos := "laws.go:102", after := #[{ on := 2, ground := Ground.guard }], guard := some (2, true) }) (v := ?vb3) rfl (by kernel_rfl) (by kernel_rfl) (by kernel_rfl) (fun _ _ _ h => h) (Or.inl ⟨by rfl, ?hyb3⟩) (by assumption) ?restb3
    case hyb3 =>
      intro w hSw
      (try dsimp only at hSw)
      go_simp
      try with_reducible rfl
    try simp only [Act.put, List.setIfInBounds_toArray, List.set_cons_zero, List.set_cons_succ]
    refine wpAnyH_take (i := 5) (oi := { dst := some 70, op := Op.load 47 (Operand.tmp 9), type := 47, pos := "laws.go:102", after := #[{ on := 2, ground := Ground.guard }], guard := some (2, true) }) (v := ?vb5) rfl (by kernel_rfl) (by kernel_rfl) (by kernel_rfl) (fun _ _ _ h => h) (Or.inl ⟨by rfl, ?hyb5⟩) (by assumption) ?restb5
    case hyb5 =>
      intro w hSw
      (try dsimp only at hSw)
      go_simp
      try with_reducible rfl
    try simp only [Act.put, List.setIfInBounds_toArray, List.set_cons_zero, List.set_cons_succ]
    refine wpAnyH_ready (rs := [4]) (by kernel_rfl) (by simp) ?_
    refine AllReadyH.cons (o := { dst := some 69, op := Op.call { callee := Callee.value (Operand.func 31), args := #[Operand.tmp 68], argTypes := #[35] }, type := 47, pos := "laws.go:102", after := #[{ on := 3, ground := Ground.data }, { on := 2, ground := Ground.chain }, { on := 2, ground := Ground.guard }], guard := some (2, true) }) rfl (fun K hK => ?_) AllReadyH.nil
    go_simp
    (go_at_call 31; refine (KV.out _ BI.out).mono ?_; rintro e wJ ⟨rfl, hbJ⟩; have TJ := Cells.below (L := [(⟨w1.heap.size, 0, none⟩, .string sc), (⟨w1.heap.size, 1, none⟩, .string ho), (⟨w1.heap.size, 2, none⟩, .int .i64 po), (⟨w1.heap.size, 3, none⟩, .int .i64 no), (⟨w1.heap.size + 1, 0, none⟩, .string sc2), (⟨w1.heap.size + 1, 1, none⟩, .string ho2), (⟨w1.heap.size + 1, 2, none⟩, .int .i64 po2), (⟨w1.heap.size + 1, 3, none⟩, .int .i64 no2), (⟨w2.heap.size, 0, none⟩, .string us), (⟨w2.heap.size, 1, none⟩, .string uh), (⟨w2.heap.size, 2, none⟩, .int .i64 uo), (⟨w2.heap.size, 3, none⟩, .string up), (⟨w4.heap.size, 0, none⟩, .string x), (⟨w4.heap.size, 1, none⟩, .string y), (⟨w4.heap.size, 2, none⟩, .int .i64 z), (⟨w4.heap.size, 3, none⟩, .int .i64 k), (⟨wv, 0, none⟩, .string us), (⟨wv, 1, none⟩, .string uh), (⟨wv, 2, none⟩, .int .i64 uo), (⟨wv, 3, none⟩, .string ⟨#[47, 101, 108, 115, 101]⟩)]) (by simp only [Cells]; go_keep) hbJ; simp only [Cells] at TJ; obtain ⟨pJ0, pJ1, pJ2, pJ3, pJ4, pJ5, pJ6, pJ7, pJ8, pJ9, pJ10, pJ11, pJ12, pJ13, pJ14, pJ15, pJ16, pJ17, pJ18, pJ19, -⟩ := TJ; have zJ : wv + 1 ≤ wJ.heap.size := Nat.le_trans zI hbJ.size; have BJ : Hid (Below w.heap.size w wJ) := BI.out.trans (hbJ.mono BI.out.size); clear pI0 pI1 pI2 pI3 pI4 pI5 pI6 pI7 pI8 pI9 pI10 pI11 pI12 pI13 pI14 pI15 pI16 pI17 pI18 pI19 zI hbI)
    try (go_wp2_with fail)
    refine hK.out _ _ ?_ (fun hH2 => ?_)
    · (try dsimp only)
      go_keep
    clear hK K hH1
    try simp only [Act.put, List.setIfInBounds_toArray, List.set_cons_zero, List.set_cons_succ]
    refine wpAnyH_take (i := 6) (oi := { dst := some 71, op := Op.binOp BinOp.neq 47 (Operand.tmp 69) (Operand.tmp 70) 47, type := 4, pos := "laws.go:102", after := #[{ on := 4, ground := Ground.data }, { on := 5, ground := Ground.data }, { on := 2, ground := Ground.guard }], guard := some (2, true) }) (v := ?vb6) rfl (by kernel_rfl) (by kernel_rfl) (by kernel_rfl) (fun _ _ _ h => h) (Or.inl ⟨by rfl, ?hyb6⟩) (by assumption) ?restb6
    case hyb6 =>
      intro w hSw
      (try dsimp only at hSw)
      go_simp
      try with_reducible rfl
    try simp only [Act.put, List.setIfInBounds_toArray, List.set_cons_zero, List.set_cons_succ]
    refine wpAnyH_take (i := 7) (oi := { dst := some 72, op := Op.move (Operand.tmp 71), type := 4, pos := "laws.go:102", after := #[{ on := 6, ground := Ground.data }, { on := 4, ground := Ground.chain }, { on := 2, ground := Ground.guard }], guard := some (2, true) }) (v := ?vb7) rfl (by kernel_rfl) (by kernel_rfl) (by kernel_rfl) (fun _ _ _ h => h) (Or.inl ⟨by rfl, ?hyb7⟩) (by assumption) ?restb7
    case hyb7 =>
      intro w hSw
      (try dsimp only at hSw)
      go_simp
      try with_reducible rfl
    try simp only [Act.put, List.setIfInBounds_toArray, List.set_cons_zero, List.set_cons_succ]
    refine wpAnyH_take (i := 8) (oi := { dst := some 73, op := Op.load 47 (Operand.tmp 9), type := 47, pos := "laws.go:102", after := #[{ on := 7, ground := Ground.guard }], guard := some (7, false) }) (v := ?vb8) rfl (by kernel_rfl) (by kernel_rfl) (by kernel_rfl) (fun _ _ _ h => h) (Or.inl ⟨by rfl, ?hyb8⟩) (by assumption) ?restb8
    case hyb8 =>
      intro w hSw
      (try dsimp only at hSw)
      go_simp
      try with_reducible rfl
    try simp only [Act.put, List.setIfInBounds_toArray, List.set_cons_zero, List.set_cons_succ]
    refine wpAnyH_ready (rs := [9]) (by kernel_rfl) (by simp) ?_
    refine AllReadyH.cons (o := { dst := some 74, op := Op.call { callee := Callee.value (Operand.func 36), args := #[Operand.tmp 73], argTypes := #[47] }, type := 4, pos := "laws.go:102", after := #[{ on := 8, ground := Ground.data }, { on := 7, ground := Ground.chain }, { on := 7, ground := Ground.guard }], guard := some (7, false) }) rfl (fun K hK => ?_) AllReadyH.nil
    go_simp
    (go_at_call 36; refine (KO.out _ BJ.out).mono ?_; rintro e wM ⟨rfl, hbM⟩; have TM := Cells.below (L := [(⟨w1.heap.size, 0, none⟩, .string sc), (⟨w1.heap.size, 1, none⟩, .string ho), (⟨w1.heap.size, 2, none⟩, .int .i64 po), (⟨w1.heap.size, 3, none⟩, .int .i64 no), (⟨w1.heap.size + 1, 0, none⟩, .string sc2), (⟨w1.heap.size + 1, 1, none⟩, .string ho2), (⟨w1.heap.size + 1, 2, none⟩, .int .i64 po2), (⟨w1.heap.size + 1, 3, none⟩, .int .i64 no2), (⟨w2.heap.size, 0, none⟩, .string us), (⟨w2.heap.size, 1, none⟩, .string uh), (⟨w2.heap.size, 2, none⟩, .int .i64 uo), (⟨w2.heap.size, 3, none⟩, .string up), (⟨w4.heap.size, 0, none⟩, .string x), (⟨w4.heap.size, 1, none⟩, .string y), (⟨w4.heap.size, 2, none⟩, .int .i64 z), (⟨w4.heap.size, 3, none⟩, .int .i64 k), (⟨wv, 0, none⟩, .string us), (⟨wv, 1, none⟩, .string uh), (⟨wv, 2, none⟩, .int .i64 uo), (⟨wv, 3, none⟩, .string ⟨#[47, 101, 108, 115, 101]⟩)]) (by simp only [Cells]; go_keep) hbM; simp only [Cells] at TM; obtain ⟨pM0, pM1, pM2, pM3, pM4, pM5, pM6, pM7, pM8, pM9, pM10, pM11, pM12, pM13, pM14, pM15, pM16, pM17, pM18, pM19, -⟩ := TM; have zM : wv + 1 ≤ wM.heap.size := Nat.le_trans zJ hbM.size; have BM : Hid (Below w.heap.size w wM) := BJ.out.trans (hbM.mono BJ.out.size); clear pJ0 pJ1 pJ2 pJ3 pJ4 pJ5 pJ6 pJ7 pJ8 pJ9 pJ10 pJ11 pJ12 pJ13 pJ14 pJ15 pJ16 pJ17 pJ18 pJ19 zJ hbJ)
    try (go_wp2_with fail)
    refine hK.out _ _ ?_ (fun hH3 => ?_)
    · (try dsimp only)
      go_keep
    clear hK K hH2
    try simp only [Act.put, List.setIfInBounds_toArray, List.set_cons_zero, List.set_cons_succ]
    refine wpAnyH_take (i := 10) (oi := { dst := some 75, op := Op.unOp UnOp.not 4 (Operand.tmp 74), type := 4, pos := "laws.go:102", after := #[{ on := 9, ground := Ground.data }, { on := 7, ground := Ground.guard }], guard := some (7, false) }) (v := ?vb10) rfl (by kernel_rfl) (by kernel_rfl) (by kernel_rfl) (fun _ _ _ h => h) (Or.inl ⟨by rfl, ?hyb10⟩) (by assumption) ?restb10
    case hyb10 =>
      intro w hSw
      (try dsimp only at hSw)
      go_simp
      try with_reducible rfl
    try simp only [Act.put, List.setIfInBounds_toArray, List.set_cons_zero, List.set_cons_succ]
    refine wpAnyH_take (i := 11) (oi := { dst := some 76, op := Op.pick (Operand.tmp 72) (Operand.const (Value.bool true)) (Operand.tmp 75), type := 4, pos := "laws.go:102", after := #[{ on := 7, ground := Ground.data }, { on := 10, ground := Ground.data }, { on := 2, ground := Ground.guard }], guard := some (2, true) }) (v := ?vb11) rfl (by kernel_rfl) (by kernel_rfl) (by kernel_rfl) (fun _ _ _ h => h) (Or.inl ⟨by rfl, ?hyb11⟩) (by assumption) ?restb11
    case hyb11 =>
      intro w hSw
      (try dsimp only at hSw)
      go_simp
      try with_reducible rfl
    try simp only [Act.put, List.setIfInBounds_toArray, List.set_cons_zero, List.set_cons_succ]
    refine wpAnyH_take (i := 12) (oi := { dst := some 77, op := Op.pick (Operand.tmp 67) (Operand.tmp 76) (Operand.const (Value.bool false)), type := 4, pos := "laws.go:102", after := #[{ on := 2, ground := Ground.data }, { on := 11, ground := Ground.data }], guard := none }) (v := ?vb12) rfl (by kernel_rfl) (by kernel_rfl) (by kernel_rfl) (fun _ _ _ h => h) (Or.inl ⟨by rfl, ?hyb12⟩) (by assumption) ?restb12
    case hyb12 =>
      intro w hSw
      (try dsimp only at hSw)
      go_simp
      try with_reducible rfl
    try simp only [Act.put, List.setIfInBounds_toArray, List.set_cons_zero, List.set_cons_succ]
    refine wpAnyH_done (by kernel_rfl) ?_ _
    clear BI
    clear BJ
    clear hbM f0 f1 f2 f3 f4 f5 f6 f7 f8 f9 f10 f11 f12 f13 f14 f15 f16 f17 f18 f19
    go_wp2_with fail
    cases ra with
    | false =>
      refine wp_region_held_drew (S := (fun w' => wv + 1 ≤ w'.heap.size ∧ w'.cell? ⟨w1.heap.size, 0, none⟩ = some (.string sc) ∧ w'.cell? ⟨w1.heap.size, 1, none⟩ = some (.string ho) ∧ w'.cell? ⟨w1.heap.size, 2, none⟩ = some (.int .i64 po) ∧ w'.cell? ⟨w1.heap.size, 3, none⟩ = some (.int .i64 no) ∧ w'.cell? ⟨w1.heap.size + 1, 0, none⟩ = some (.string sc2) ∧ w'.cell? ⟨w1.heap.size + 1, 1, none⟩ = some (.string ho2) ∧ w'.cell? ⟨w1.heap.size + 1, 2, none⟩ = some (.int .i64 po2) ∧ w'.cell? ⟨w1.heap.size + 1, 3, none⟩ = some (.int .i64 no2))) (by kernel_rfl) ?_ (fun hH0 => ?_)
      · (try dsimp only)
        go_keep
      refine wpAnyH_take (i := 0) (oi := { dst := some 78, op := Op.load 47 (Operand.tmp 5), type := 47, pos := "laws.go:105", after := #[], guard := none }) (v := ?vc0) rfl (by kernel_rfl) (by kernel_rfl) (by kernel_rfl) (fun _ _ _ h => h) (Or.inl ⟨by rfl, ?hyc0⟩) (by assumption) ?restc0
      case hyc0 =>
        intro w hSw
        (try dsimp only at hSw)
        go_simp
        try with_reducible rfl
      try simp only [Act.put, List.setIfInBounds_toArray, List.set_cons_zero, List.set_cons_succ]
      refine wpAnyH_ready (rs := [1]) (by kernel_rfl) (by simp) ?_
      refine AllReadyH.cons (o := { dst := some 79, op := Op.call { callee := Callee.value (Operand.func 37), args := #[Operand.tmp 78], argTypes := #[47] }, type := 4, pos := "laws.go:105", after := #[{ on := 0, ground := Ground.data }], guard := none }) rfl (fun K hK => ?_) AllReadyH.nil
      go_simp
      (go_at_call 37; refine (K8.out _).mono ?_; rintro e wPA ⟨rfl, hbPA⟩; have TPA := Cells.below (L := [(⟨w1.heap.size, 0, none⟩, .string sc), (⟨w1.heap.size, 1, none⟩, .string ho), (⟨w1.heap.size, 2, none⟩, .int .i64 po), (⟨w1.heap.size, 3, none⟩, .int .i64 no), (⟨w1.heap.size + 1, 0, none⟩, .string sc2), (⟨w1.heap.size + 1, 1, none⟩, .string ho2), (⟨w1.heap.size + 1, 2, none⟩, .int .i64 po2), (⟨w1.heap.size + 1, 3, none⟩, .int .i64 no2)]) (by simp only [Cells]; go_keep) hbPA; simp only [Cells] at TPA; obtain ⟨pPA0, pPA1, pPA2, pPA3, pPA4, pPA5, pPA6, pPA7, -⟩ := TPA; have zPA : wv + 1 ≤ wPA.heap.size := Nat.le_trans zM hbPA.size; have BPA : Hid (Below w.heap.size w wPA) := (BM.out.trans (Below.drew (Below.refl _ _))).trans (hbPA.mono (by have := BM.out.size; simpa using this)))
      try (go_wp2_with fail)
      refine hK.out _ _ ?_ (fun hH1 => ?_)
      · (try dsimp only)
        go_keep
      clear hK K hH0
      try simp only [Act.put, List.setIfInBounds_toArray, List.set_cons_zero, List.set_cons_succ]
      refine wpAnyH_take (i := 2) (oi := { dst := some 80, op := Op.unOp UnOp.not 4 (Operand.tmp 79), type := 4, pos := "laws.go:105", after := #[{ on := 1, ground := Ground.data }], guard := none }) (v := ?vc2) rfl (by kernel_rfl) (by kernel_rfl) (by kernel_rfl) (fun _ _ _ h => h) (Or.inl ⟨by rfl, ?hyc2⟩) (by assumption) ?restc2
      case hyc2 =>
        intro w hSw
        (try dsimp only at hSw)
        go_simp
        try with_reducible rfl
      try simp only [Act.put, List.setIfInBounds_toArray, List.set_cons_zero, List.set_cons_succ]
      refine wpAnyH_take (i := 3) (oi := { dst := some 81, op := Op.move (Operand.tmp 80), type := 4, pos := "laws.go:105", after := #[{ on := 2, ground := Ground.data }, { on := 1, ground := Ground.chain }], guard := none }) (v := ?vc3) rfl (by kernel_rfl) (by kernel_rfl) (by kernel_rfl) (fun _ _ _ h => h) (Or.inl ⟨by rfl, ?hyc3⟩) (by assumption) ?restc3
      case hyc3 =>
        intro w hSw
        (try dsimp only at hSw)
        go_simp
        try with_reducible rfl
      try simp only [Act.put, List.setIfInBounds_toArray, List.set_cons_zero, List.set_cons_succ]
      refine wpAnyH_take (i := 4) (oi := { dst := some 82, op := Op.load 47 (Operand.tmp 6), type := 47, pos := "laws.go:105", after := #[{ on := 3, ground := Ground.guard }], guard := some (3, false) }) (v := undef) rfl (by kernel_rfl) (by kernel_rfl) (by kernel_rfl) (fun _ _ _ h => h) (Or.inr ⟨by rfl, rfl⟩) (by assumption) ?_
      try simp only [Act.put, List.setIfInBounds_toArray, List.set_cons_zero, List.set_cons_succ]
      refine wpAnyH_take (i := 5) (oi := { dst := some 83, op := Op.call { callee := Callee.value (Operand.func 37), args := #[Operand.tmp 82], argTypes := #[47] }, type := 4, pos := "laws.go:105", after := #[{ on := 4, ground := Ground.data }, { on := 3, ground := Ground.chain }, { on := 3, ground := Ground.guard }], guard := some (3, false) }) (v := undef) rfl (by kernel_rfl) (by kernel_rfl) (by kernel_rfl) (fun _ _ _ h => h) (Or.inr ⟨by rfl, rfl⟩) (by assumption) ?_
      try simp only [Act.put, List.setIfInBounds_toArray, List.set_cons_zero, List.set_cons_succ]
      refine wpAnyH_take (i := 6) (oi := { dst := some 84, op := Op.unOp UnOp.not 4 (Operand.tmp 83), type := 4, pos := "laws.go:105", after := #[{ on := 5, ground := Ground.data }, { on := 3, ground := Ground.guard }], guard := some (3, false) }) (v := undef) rfl (by kernel_rfl) (by kernel_rfl) (by kernel_rfl) (fun _ _ _ h => h) (Or.inr ⟨by rfl, rfl⟩) (by assumption) ?_
      try simp only [Act.put, List.setIfInBounds_toArray, List.set_cons_zero, List.set_cons_succ]
      refine wpAnyH_take (i := 7) (oi := { dst := some 85, op := Op.pick (Operand.tmp 81) (Operand.const (Value.bool true)) (Operand.tmp 84), type := 4, pos := "laws.go:105", after := #[{ on := 3, ground := Ground.data }, { on := 6, ground := Ground.data }], guard := none }) (v := ?vc7) rfl (by kernel_rfl) (by kernel_rfl) (by kernel_rfl) (fun _ _ _ h => h) (Or.inl ⟨by rfl, ?hyc7⟩) (by assumption) ?restc7
      case hyc7 =>
        intro w hSw
        (try dsimp only at hSw)
        go_simp
        try with_reducible rfl
      try simp only [Act.put, List.setIfInBounds_toArray, List.set_cons_zero, List.set_cons_succ]
      refine wpAnyH_take (i := 8) (oi := { dst := some 86, op := Op.move (Operand.tmp 85), type := 4, pos := "laws.go:105", after := #[{ on := 7, ground := Ground.data }, { on := 5, ground := Ground.chain }], guard := none }) (v := ?vc8) rfl (by kernel_rfl) (by kernel_rfl) (by kernel_rfl) (fun _ _ _ h => h) (Or.inl ⟨by rfl, ?hyc8⟩) (by assumption) ?restc8
      case hyc8 =>
        intro w hSw
        (try dsimp only at hSw)
        go_simp
        try with_reducible rfl
      try simp only [Act.put, List.setIfInBounds_toArray, List.set_cons_zero, List.set_cons_succ]
      refine wpAnyH_take (i := 9) (oi := { dst := some 87, op := Op.move (Operand.tmp 8), type := 4, pos := "laws.go:105", after := #[{ on := 8, ground := Ground.guard }], guard := some (8, false) }) (v := undef) rfl (by kernel_rfl) (by kernel_rfl) (by kernel_rfl) (fun _ _ _ h => h) (Or.inr ⟨by rfl, rfl⟩) (by assumption) ?_
      try simp only [Act.put, List.setIfInBounds_toArray, List.set_cons_zero, List.set_cons_succ]
      refine wpAnyH_take (i := 10) (oi := { dst := some 88, op := Op.load 47 (Operand.tmp 5), type := 47, pos := "laws.go:105", after := #[{ on := 8, ground := Ground.guard }], guard := some (8, false) }) (v := undef) rfl (by kernel_rfl) (by kernel_rfl) (by kernel_rfl) (fun _ _ _ h => h) (Or.inr ⟨by rfl, rfl⟩) (by assumption) ?_
      try simp only [Act.put, List.setIfInBounds_toArray, List.set_cons_zero, List.set_cons_succ]
      refine wpAnyH_take (i := 11) (oi := { dst := some 89, op := Op.call { callee := Callee.value (Operand.func 34), args := #[Operand.tmp 88], argTypes := #[47] }, type := 9, pos := "laws.go:105", after := #[{ on := 10, ground := Ground.data }, { on := 8, ground := Ground.chain }, { on := 8, ground := Ground.guard }], guard := some (8, false) }) (v := undef) rfl (by kernel_rfl) (by kernel_rfl) (by kernel_rfl) (fun _ _ _ h => h) (Or.inr ⟨by rfl, rfl⟩) (by assumption) ?_
      try simp only [Act.put, List.setIfInBounds_toArray, List.set_cons_zero, List.set_cons_succ]
      refine wpAnyH_take (i := 12) (oi := { dst := some 90, op := Op.load 47 (Operand.tmp 6), type := 47, pos := "laws.go:105", after := #[{ on := 8, ground := Ground.guard }], guard := some (8, false) }) (v := undef) rfl (by kernel_rfl) (by kernel_rfl) (by kernel_rfl) (fun _ _ _ h => h) (Or.inr ⟨by rfl, rfl⟩) (by assumption) ?_
      try simp only [Act.put, List.setIfInBounds_toArray, List.set_cons_zero, List.set_cons_succ]
      refine wpAnyH_take (i := 13) (oi := { dst := some 91, op := Op.call { callee := Callee.value (Operand.func 34), args := #[Operand.tmp 90], argTypes := #[47] }, type := 9, pos := "laws.go:105", after := #[{ on := 12, ground := Ground.data }, { on := 11, ground := Ground.chain }, { on := 8, ground := Ground.guard }], guard := some (8, false) }) (v := undef) rfl (by kernel_rfl) (by kernel_rfl) (by kernel_rfl) (fun _ _ _ h => h) (Or.inr ⟨by rfl, rfl⟩) (by assumption) ?_
      try simp only [Act.put, List.setIfInBounds_toArray, List.set_cons_zero, List.set_cons_succ]
      refine wpAnyH_take (i := 14) (oi := { dst := some 92, op := Op.binOp BinOp.eql 9 (Operand.tmp 89) (Operand.tmp 91) 9, type := 4, pos := "laws.go:105", after := #[{ on := 11, ground := Ground.data }, { on := 13, ground := Ground.data }, { on := 8, ground := Ground.guard }], guard := some (8, false) }) (v := undef) rfl (by kernel_rfl) (by kernel_rfl) (by kernel_rfl) (fun _ _ _ h => h) (Or.inr ⟨by rfl, rfl⟩) (by assumption) ?_
      try simp only [Act.put, List.setIfInBounds_toArray, List.set_cons_zero, List.set_cons_succ]
      refine wpAnyH_take (i := 15) (oi := { dst := some 93, op := Op.binOp BinOp.eql 4 (Operand.tmp 87) (Operand.tmp 92) 4, type := 4, pos := "laws.go:105", after := #[{ on := 9, ground := Ground.data }, { on := 14, ground := Ground.data }, { on := 8, ground := Ground.guard }], guard := some (8, false) }) (v := undef) rfl (by kernel_rfl) (by kernel_rfl) (by kernel_rfl) (fun _ _ _ h => h) (Or.inr ⟨by rfl, rfl⟩) (by assumption) ?_
      try simp only [Act.put, List.setIfInBounds_toArray, List.set_cons_zero, List.set_cons_succ]
      refine wpAnyH_take (i := 16) (oi := { dst := some 94, op := Op.pick (Operand.tmp 86) (Operand.const (Value.bool true)) (Operand.tmp 93), type := 4, pos := "laws.go:105", after := #[{ on := 8, ground := Ground.data }, { on := 15, ground := Ground.data }], guard := none }) (v := ?vc16) rfl (by kernel_rfl) (by kernel_rfl) (by kernel_rfl) (fun _ _ _ h => h) (Or.inl ⟨by rfl, ?hyc16⟩) (by assumption) ?restc16
      case hyc16 =>
        intro w hSw
        (try dsimp only at hSw)
        go_simp
        try with_reducible rfl
      try simp only [Act.put, List.setIfInBounds_toArray, List.set_cons_zero, List.set_cons_succ]
      refine wpAnyH_take (i := 17) (oi := { dst := some 4, op := Op.assign (Operand.tmp 94), type := 4, pos := "laws.go:105", after := #[{ on := 16, ground := Ground.data }, { on := 13, ground := Ground.chain }, { on := 0, ground := Ground.phase }, { on := 1, ground := Ground.phase }, { on := 2, ground := Ground.phase }, { on := 3, ground := Ground.phase }, { on := 4, ground := Ground.phase }, { on := 5, ground := Ground.phase }, { on := 6, ground := Ground.phase }, { on := 7, ground := Ground.phase }, { on := 8, ground := Ground.phase }, { on := 9, ground := Ground.phase }, { on := 10, ground := Ground.phase }, { on := 11, ground := Ground.phase }, { on := 12, ground := Ground.phase }, { on := 13, ground := Ground.phase }, { on := 14, ground := Ground.phase }, { on := 15, ground := Ground.phase }, { on := 16, ground := Ground.phase }], guard := none }) (v := ?vc17) rfl (by kernel_rfl) (by kernel_rfl) (by kernel_rfl) (fun _ _ _ h => h) (Or.inl ⟨by rfl, ?hyc17⟩) (by assumption) ?restc17
      case hyc17 =>
        intro w hSw
        (try dsimp only at hSw)
        go_simp
        try with_reducible rfl
      try simp only [Act.put, List.setIfInBounds_toArray, List.set_cons_zero, List.set_cons_succ]
      refine wpAnyH_done (by kernel_rfl) ?_ _
      go_wp2
      go_ret
      exact ⟨rfl, BPA.out⟩
    | true =>
      cases rb with
      | false =>
        refine wp_region_held_drew (S := (fun w' => wv + 1 ≤ w'.heap.size ∧ w'.cell? ⟨w1.heap.size, 0, none⟩ = some (.string sc) ∧ w'.cell? ⟨w1.heap.size, 1, none⟩ = some (.string ho) ∧ w'.cell? ⟨w1.heap.size, 2, none⟩ = some (.int .i64 po) ∧ w'.cell? ⟨w1.heap.size, 3, none⟩ = some (.int .i64 no) ∧ w'.cell? ⟨w1.heap.size + 1, 0, none⟩ = some (.string sc2) ∧ w'.cell? ⟨w1.heap.size + 1, 1, none⟩ = some (.string ho2) ∧ w'.cell? ⟨w1.heap.size + 1, 2, none⟩ = some (.int .i64 po2) ∧ w'.cell? ⟨w1.heap.size + 1, 3, none⟩ = some (.int .i64 no2))) (by kernel_rfl) ?_ (fun hH0 => ?_)
        · (try dsimp only)
          go_keep
        refine wpAnyH_take (i := 0) (oi := { dst := some 78, op := Op.load 47 (Operand.tmp 5), type := 47, pos := "laws.go:105", after := #[], guard := none }) (v := ?vd0) rfl (by kernel_rfl) (by kernel_rfl) (by kernel_rfl) (fun _ _ _ h => h) (Or.inl ⟨by rfl, ?hyd0⟩) (by assumption) ?restd0
        case hyd0 =>
          intro w hSw
          (try dsimp only at hSw)
          go_simp
          try with_reducible rfl
        try simp only [Act.put, List.setIfInBounds_toArray, List.set_cons_zero, List.set_cons_succ]
        refine wpAnyH_ready (rs := [1]) (by kernel_rfl) (by simp) ?_
        refine AllReadyH.cons (o := { dst := some 79, op := Op.call { callee := Callee.value (Operand.func 37), args := #[Operand.tmp 78], argTypes := #[47] }, type := 4, pos := "laws.go:105", after := #[{ on := 0, ground := Ground.data }], guard := none }) rfl (fun K hK => ?_) AllReadyH.nil
        go_simp
        (go_at_call 37; refine (K8.out _).mono ?_; rintro e wPA ⟨rfl, hbPA⟩; have TPA := Cells.below (L := [(⟨w1.heap.size, 0, none⟩, .string sc), (⟨w1.heap.size, 1, none⟩, .string ho), (⟨w1.heap.size, 2, none⟩, .int .i64 po), (⟨w1.heap.size, 3, none⟩, .int .i64 no), (⟨w1.heap.size + 1, 0, none⟩, .string sc2), (⟨w1.heap.size + 1, 1, none⟩, .string ho2), (⟨w1.heap.size + 1, 2, none⟩, .int .i64 po2), (⟨w1.heap.size + 1, 3, none⟩, .int .i64 no2)]) (by simp only [Cells]; go_keep) hbPA; simp only [Cells] at TPA; obtain ⟨pPA0, pPA1, pPA2, pPA3, pPA4, pPA5, pPA6, pPA7, -⟩ := TPA; have zPA : wv + 1 ≤ wPA.heap.size := Nat.le_trans zM hbPA.size; have BPA : Hid (Below w.heap.size w wPA) := (BM.out.trans (Below.drew (Below.refl _ _))).trans (hbPA.mono (by have := BM.out.size; simpa using this)))
        try (go_wp2_with fail)
        refine hK.out _ _ ?_ (fun hH1 => ?_)
        · (try dsimp only)
          go_keep
        clear hK K hH0
        try simp only [Act.put, List.setIfInBounds_toArray, List.set_cons_zero, List.set_cons_succ]
        refine wpAnyH_take (i := 2) (oi := { dst := some 80, op := Op.unOp UnOp.not 4 (Operand.tmp 79), type := 4, pos := "laws.go:105", after := #[{ on := 1, ground := Ground.data }], guard := none }) (v := ?vd2) rfl (by kernel_rfl) (by kernel_rfl) (by kernel_rfl) (fun _ _ _ h => h) (Or.inl ⟨by rfl, ?hyd2⟩) (by assumption) ?restd2
        case hyd2 =>
          intro w hSw
          (try dsimp only at hSw)
          go_simp
          try with_reducible rfl
        try simp only [Act.put, List.setIfInBounds_toArray, List.set_cons_zero, List.set_cons_succ]
        refine wpAnyH_take (i := 3) (oi := { dst := some 81, op := Op.move (Operand.tmp 80), type := 4, pos := "laws.go:105", after := #[{ on := 2, ground := Ground.data }, { on := 1, ground := Ground.chain }], guard := none }) (v := ?vd3) rfl (by kernel_rfl) (by kernel_rfl) (by kernel_rfl) (fun _ _ _ h => h) (Or.inl ⟨by rfl, ?hyd3⟩) (by assumption) ?restd3
        case hyd3 =>
          intro w hSw
          (try dsimp only at hSw)
          go_simp
          try with_reducible rfl
        try simp only [Act.put, List.setIfInBounds_toArray, List.set_cons_zero, List.set_cons_succ]
        refine wpAnyH_take (i := 4) (oi := { dst := some 82, op := Op.load 47 (Operand.tmp 6), type := 47, pos := "laws.go:105", after := #[{ on := 3, ground := Ground.guard }], guard := some (3, false) }) (v := ?vd4) rfl (by kernel_rfl) (by kernel_rfl) (by kernel_rfl) (fun _ _ _ h => h) (Or.inl ⟨by rfl, ?hyd4⟩) (by assumption) ?restd4
        case hyd4 =>
          intro w hSw
          (try dsimp only at hSw)
          go_simp
          try with_reducible rfl
        try simp only [Act.put, List.setIfInBounds_toArray, List.set_cons_zero, List.set_cons_succ]
        refine wpAnyH_ready (rs := [5]) (by kernel_rfl) (by simp) ?_
        refine AllReadyH.cons (o := { dst := some 83, op := Op.call { callee := Callee.value (Operand.func 37), args := #[Operand.tmp 82], argTypes := #[47] }, type := 4, pos := "laws.go:105", after := #[{ on := 4, ground := Ground.data }, { on := 3, ground := Ground.chain }, { on := 3, ground := Ground.guard }], guard := some (3, false) }) rfl (fun K hK => ?_) AllReadyH.nil
        go_simp
        (go_at_call 37; refine (K9.out _).mono ?_; rintro e wPB ⟨rfl, hbPB⟩; have TPB := Cells.below (L := [(⟨w1.heap.size, 0, none⟩, .string sc), (⟨w1.heap.size, 1, none⟩, .string ho), (⟨w1.heap.size, 2, none⟩, .int .i64 po), (⟨w1.heap.size, 3, none⟩, .int .i64 no), (⟨w1.heap.size + 1, 0, none⟩, .string sc2), (⟨w1.heap.size + 1, 1, none⟩, .string ho2), (⟨w1.heap.size + 1, 2, none⟩, .int .i64 po2), (⟨w1.heap.size + 1, 3, none⟩, .int .i64 no2)]) (by simp only [Cells]; go_keep) hbPB; simp only [Cells] at TPB; obtain ⟨pPB0, pPB1, pPB2, pPB3, pPB4, pPB5, pPB6, pPB7, -⟩ := TPB; have zPB : wv + 1 ≤ wPB.heap.size := Nat.le_trans zPA hbPB.size; have BPB : Hid (Below w.heap.size w wPB) := BPA.out.trans (hbPB.mono BPA.out.size); clear pPA0 pPA1 pPA2 pPA3 pPA4 pPA5 pPA6 pPA7 zPA hbPA)
        try (go_wp2_with fail)
        refine hK.out _ _ ?_ (fun hH2 => ?_)
        · (try dsimp only)
          go_keep
        clear hK K hH1
        try simp only [Act.put, List.setIfInBounds_toArray, List.set_cons_zero, List.set_cons_succ]
        refine wpAnyH_take (i := 6) (oi := { dst := some 84, op := Op.unOp UnOp.not 4 (Operand.tmp 83), type := 4, pos := "laws.go:105", after := #[{ on := 5, ground := Ground.data }, { on := 3, ground := Ground.guard }], guard := some (3, false) }) (v := ?vd6) rfl (by kernel_rfl) (by kernel_rfl) (by kernel_rfl) (fun _ _ _ h => h) (Or.inl ⟨by rfl, ?hyd6⟩) (by assumption) ?restd6
        case hyd6 =>
          intro w hSw
          (try dsimp only at hSw)
          go_simp
          try with_reducible rfl
        try simp only [Act.put, List.setIfInBounds_toArray, List.set_cons_zero, List.set_cons_succ]
        refine wpAnyH_take (i := 7) (oi := { dst := some 85, op := Op.pick (Operand.tmp 81) (Operand.const (Value.bool true)) (Operand.tmp 84), type := 4, pos := "laws.go:105", after := #[{ on := 3, ground := Ground.data }, { on := 6, ground := Ground.data }], guard := none }) (v := ?vd7) rfl (by kernel_rfl) (by kernel_rfl) (by kernel_rfl) (fun _ _ _ h => h) (Or.inl ⟨by rfl, ?hyd7⟩) (by assumption) ?restd7
        case hyd7 =>
          intro w hSw
          (try dsimp only at hSw)
          go_simp
          try with_reducible rfl
        try simp only [Act.put, List.setIfInBounds_toArray, List.set_cons_zero, List.set_cons_succ]
        refine wpAnyH_take (i := 8) (oi := { dst := some 86, op := Op.move (Operand.tmp 85), type := 4, pos := "laws.go:105", after := #[{ on := 7, ground := Ground.data }, { on := 5, ground := Ground.chain }], guard := none }) (v := ?vd8) rfl (by kernel_rfl) (by kernel_rfl) (by kernel_rfl) (fun _ _ _ h => h) (Or.inl ⟨by rfl, ?hyd8⟩) (by assumption) ?restd8
        case hyd8 =>
          intro w hSw
          (try dsimp only at hSw)
          go_simp
          try with_reducible rfl
        try simp only [Act.put, List.setIfInBounds_toArray, List.set_cons_zero, List.set_cons_succ]
        refine wpAnyH_take (i := 9) (oi := { dst := some 87, op := Op.move (Operand.tmp 8), type := 4, pos := "laws.go:105", after := #[{ on := 8, ground := Ground.guard }], guard := some (8, false) }) (v := undef) rfl (by kernel_rfl) (by kernel_rfl) (by kernel_rfl) (fun _ _ _ h => h) (Or.inr ⟨by rfl, rfl⟩) (by assumption) ?_
        try simp only [Act.put, List.setIfInBounds_toArray, List.set_cons_zero, List.set_cons_succ]
        refine wpAnyH_take (i := 10) (oi := { dst := some 88, op := Op.load 47 (Operand.tmp 5), type := 47, pos := "laws.go:105", after := #[{ on := 8, ground := Ground.guard }], guard := some (8, false) }) (v := undef) rfl (by kernel_rfl) (by kernel_rfl) (by kernel_rfl) (fun _ _ _ h => h) (Or.inr ⟨by rfl, rfl⟩) (by assumption) ?_
        try simp only [Act.put, List.setIfInBounds_toArray, List.set_cons_zero, List.set_cons_succ]
        refine wpAnyH_take (i := 11) (oi := { dst := some 89, op := Op.call { callee := Callee.value (Operand.func 34), args := #[Operand.tmp 88], argTypes := #[47] }, type := 9, pos := "laws.go:105", after := #[{ on := 10, ground := Ground.data }, { on := 8, ground := Ground.chain }, { on := 8, ground := Ground.guard }], guard := some (8, false) }) (v := undef) rfl (by kernel_rfl) (by kernel_rfl) (by kernel_rfl) (fun _ _ _ h => h) (Or.inr ⟨by rfl, rfl⟩) (by assumption) ?_
        try simp only [Act.put, List.setIfInBounds_toArray, List.set_cons_zero, List.set_cons_succ]
        refine wpAnyH_take (i := 12) (oi := { dst := some 90, op := Op.load 47 (Operand.tmp 6), type := 47, pos := "laws.go:105", after := #[{ on := 8, ground := Ground.guard }], guard := some (8, false) }) (v := undef) rfl (by kernel_rfl) (by kernel_rfl) (by kernel_rfl) (fun _ _ _ h => h) (Or.inr ⟨by rfl, rfl⟩) (by assumption) ?_
        try simp only [Act.put, List.setIfInBounds_toArray, List.set_cons_zero, List.set_cons_succ]
        refine wpAnyH_take (i := 13) (oi := { dst := some 91, op := Op.call { callee := Callee.value (Operand.func 34), args := #[Operand.tmp 90], argTypes := #[47] }, type := 9, pos := "laws.go:105", after := #[{ on := 12, ground := Ground.data }, { on := 11, ground := Ground.chain }, { on := 8, ground := Ground.guard }], guard := some (8, false) }) (v := undef) rfl (by kernel_rfl) (by kernel_rfl) (by kernel_rfl) (fun _ _ _ h => h) (Or.inr ⟨by rfl, rfl⟩) (by assumption) ?_
        try simp only [Act.put, List.setIfInBounds_toArray, List.set_cons_zero, List.set_cons_succ]
        refine wpAnyH_take (i := 14) (oi := { dst := some 92, op := Op.binOp BinOp.eql 9 (Operand.tmp 89) (Operand.tmp 91) 9, type := 4, pos := "laws.go:105", after := #[{ on := 11, ground := Ground.data }, { on := 13, ground := Ground.data }, { on := 8, ground := Ground.guard }], guard := some (8, false) }) (v := undef) rfl (by kernel_rfl) (by kernel_rfl) (by kernel_rfl) (fun _ _ _ h => h) (Or.inr ⟨by rfl, rfl⟩) (by assumption) ?_
        try simp only [Act.put, List.setIfInBounds_toArray, List.set_cons_zero, List.set_cons_succ]
        refine wpAnyH_take (i := 15) (oi := { dst := some 93, op := Op.binOp BinOp.eql 4 (Operand.tmp 87) (Operand.tmp 92) 4, type := 4, pos := "laws.go:105", after := #[{ on := 9, ground := Ground.data }, { on := 14, ground := Ground.data }, { on := 8, ground := Ground.guard }], guard := some (8, false) }) (v := undef) rfl (by kernel_rfl) (by kernel_rfl) (by kernel_rfl) (fun _ _ _ h => h) (Or.inr ⟨by rfl, rfl⟩) (by assumption) ?_
        try simp only [Act.put, List.setIfInBounds_toArray, List.set_cons_zero, List.set_cons_succ]
        refine wpAnyH_take (i := 16) (oi := { dst := some 94, op := Op.pick (Operand.tmp 86) (Operand.const (Value.bool true)) (Operand.tmp 93), type := 4, pos := "laws.go:105", after := #[{ on := 8, ground := Ground.data }, { on := 15, ground := Ground.data }], guard := none }) (v := ?vd16) rfl (by kernel_rfl) (by kernel_rfl) (by kernel_rfl) (fun _ _ _ h => h) (Or.inl ⟨by rfl, ?hyd16⟩) (by assumption) ?restd16
        case hyd16 =>
          intro w hSw
          (try dsimp only at hSw)
          go_simp
          try with_reducible rfl
        try simp only [Act.put, List.setIfInBounds_toArray, List.set_cons_zero, List.set_cons_succ]
        refine wpAnyH_take (i := 17) (oi := { dst := some 4, op := Op.assign (Operand.tmp 94), type := 4, pos := "laws.go:105", after := #[{ on := 16, ground := Ground.data }, { on := 13, ground := Ground.chain }, { on := 0, ground := Ground.phase }, { on := 1, ground := Ground.phase }, { on := 2, ground := Ground.phase }, { on := 3, ground := Ground.phase }, { on := 4, ground := Ground.phase }, { on := 5, ground := Ground.phase }, { on := 6, ground := Ground.phase }, { on := 7, ground := Ground.phase }, { on := 8, ground := Ground.phase }, { on := 9, ground := Ground.phase }, { on := 10, ground := Ground.phase }, { on := 11, ground := Ground.phase }, { on := 12, ground := Ground.phase }, { on := 13, ground := Ground.phase }, { on := 14, ground := Ground.phase }, { on := 15, ground := Ground.phase }, { on := 16, ground := Ground.phase }], guard := none }) (v := ?vd17) rfl (by kernel_rfl) (by kernel_rfl) (by kernel_rfl) (fun _ _ _ h => h) (Or.inl ⟨by rfl, ?hyd17⟩) (by assumption) ?restd17
        case hyd17 =>
          intro w hSw
          (try dsimp only at hSw)
          go_simp
          try with_reducible rfl
        try simp only [Act.put, List.setIfInBounds_toArray, List.set_cons_zero, List.set_cons_succ]
        refine wpAnyH_done (by kernel_rfl) ?_ _
        go_wp2
        go_ret
        exact ⟨rfl, BPB.out⟩
      | true =>
        have hsame := HX.out rfl rfl
        refine wp_region_held_drew (S := (fun w' => wv + 1 ≤ w'.heap.size ∧ w'.cell? ⟨w1.heap.size, 0, none⟩ = some (.string sc) ∧ w'.cell? ⟨w1.heap.size, 1, none⟩ = some (.string ho) ∧ w'.cell? ⟨w1.heap.size, 2, none⟩ = some (.int .i64 po) ∧ w'.cell? ⟨w1.heap.size, 3, none⟩ = some (.int .i64 no) ∧ w'.cell? ⟨w1.heap.size + 1, 0, none⟩ = some (.string sc2) ∧ w'.cell? ⟨w1.heap.size + 1, 1, none⟩ = some (.string ho2) ∧ w'.cell? ⟨w1.heap.size + 1, 2, none⟩ = some (.int .i64 po2) ∧ w'.cell? ⟨w1.heap.size + 1, 3, none⟩ = some (.int .i64 no2))) (by kernel_rfl) ?_ (fun hH0 => ?_)
        · (try dsimp only)
          go_keep
        refine wpAnyH_take (i := 0) (oi := { dst := some 78, op := Op.load 47 (Operand.tmp 5), type := 47, pos := "laws.go:105", after := #[], guard := none }) (v := ?ve0) rfl (by kernel_rfl) (by kernel_rfl) (by kernel_rfl) (fun _ _ _ h => h) (Or.inl ⟨by rfl, ?hye0⟩) (by assumption) ?reste0
        case hye0 =>
          intro w hSw
          (try dsimp only at hSw)
          go_simp
          try with_reducible rfl
        try simp only [Act.put, List.setIfInBounds_toArray, List.set_cons_zero, List.set_cons_succ]
        refine wpAnyH_ready (rs := [1]) (by kernel_rfl) (by simp) ?_
        refine AllReadyH.cons (o := { dst := some 79, op := Op.call { callee := Callee.value (Operand.func 37), args := #[Operand.tmp 78], argTypes := #[47] }, type := 4, pos := "laws.go:105", after := #[{ on := 0, ground := Ground.data }], guard := none }) rfl (fun K hK => ?_) AllReadyH.nil
        go_simp
        (go_at_call 37; refine (K8.out _).mono ?_; rintro e wPA ⟨rfl, hbPA⟩; have TPA := Cells.below (L := [(⟨w1.heap.size, 0, none⟩, .string sc), (⟨w1.heap.size, 1, none⟩, .string ho), (⟨w1.heap.size, 2, none⟩, .int .i64 po), (⟨w1.heap.size, 3, none⟩, .int .i64 no), (⟨w1.heap.size + 1, 0, none⟩, .string sc2), (⟨w1.heap.size + 1, 1, none⟩, .string ho2), (⟨w1.heap.size + 1, 2, none⟩, .int .i64 po2), (⟨w1.heap.size + 1, 3, none⟩, .int .i64 no2)]) (by simp only [Cells]; go_keep) hbPA; simp only [Cells] at TPA; obtain ⟨pPA0, pPA1, pPA2, pPA3, pPA4, pPA5, pPA6, pPA7, -⟩ := TPA; have zPA : wv + 1 ≤ wPA.heap.size := Nat.le_trans zM hbPA.size; have BPA : Hid (Below w.heap.size w wPA) := (BM.out.trans (Below.drew (Below.refl _ _))).trans (hbPA.mono (by have := BM.out.size; simpa using this)))
        try (go_wp2_with fail)
        refine hK.out _ _ ?_ (fun hH1 => ?_)
        · (try dsimp only)
          go_keep
        clear hK K hH0
        try simp only [Act.put, List.setIfInBounds_toArray, List.set_cons_zero, List.set_cons_succ]
        refine wpAnyH_take (i := 2) (oi := { dst := some 80, op := Op.unOp UnOp.not 4 (Operand.tmp 79), type := 4, pos := "laws.go:105", after := #[{ on := 1, ground := Ground.data }], guard := none }) (v := ?ve2) rfl (by kernel_rfl) (by kernel_rfl) (by kernel_rfl) (fun _ _ _ h => h) (Or.inl ⟨by rfl, ?hye2⟩) (by assumption) ?reste2
        case hye2 =>
          intro w hSw
          (try dsimp only at hSw)
          go_simp
          try with_reducible rfl
        try simp only [Act.put, List.setIfInBounds_toArray, List.set_cons_zero, List.set_cons_succ]
        refine wpAnyH_take (i := 3) (oi := { dst := some 81, op := Op.move (Operand.tmp 80), type := 4, pos := "laws.go:105", after := #[{ on := 2, ground := Ground.data }, { on := 1, ground := Ground.chain }], guard := none }) (v := ?ve3) rfl (by kernel_rfl) (by kernel_rfl) (by kernel_rfl) (fun _ _ _ h => h) (Or.inl ⟨by rfl, ?hye3⟩) (by assumption) ?reste3
        case hye3 =>
          intro w hSw
          (try dsimp only at hSw)
          go_simp
          try with_reducible rfl
        try simp only [Act.put, List.setIfInBounds_toArray, List.set_cons_zero, List.set_cons_succ]
        refine wpAnyH_take (i := 4) (oi := { dst := some 82, op := Op.load 47 (Operand.tmp 6), type := 47, pos := "laws.go:105", after := #[{ on := 3, ground := Ground.guard }], guard := some (3, false) }) (v := ?ve4) rfl (by kernel_rfl) (by kernel_rfl) (by kernel_rfl) (fun _ _ _ h => h) (Or.inl ⟨by rfl, ?hye4⟩) (by assumption) ?reste4
        case hye4 =>
          intro w hSw
          (try dsimp only at hSw)
          go_simp
          try with_reducible rfl
        try simp only [Act.put, List.setIfInBounds_toArray, List.set_cons_zero, List.set_cons_succ]
        refine wpAnyH_ready (rs := [5]) (by kernel_rfl) (by simp) ?_
        refine AllReadyH.cons (o := { dst := some 83, op := Op.call { callee := Callee.value (Operand.func 37), args := #[Operand.tmp 82], argTypes := #[47] }, type := 4, pos := "laws.go:105", after := #[{ on := 4, ground := Ground.data }, { on := 3, ground := Ground.chain }, { on := 3, ground := Ground.guard }], guard := some (3, false) }) rfl (fun K hK => ?_) AllReadyH.nil
        go_simp
        (go_at_call 37; refine (K9.out _).mono ?_; rintro e wPB ⟨rfl, hbPB⟩; have TPB := Cells.below (L := [(⟨w1.heap.size, 0, none⟩, .string sc), (⟨w1.heap.size, 1, none⟩, .string ho), (⟨w1.heap.size, 2, none⟩, .int .i64 po), (⟨w1.heap.size, 3, none⟩, .int .i64 no), (⟨w1.heap.size + 1, 0, none⟩, .string sc2), (⟨w1.heap.size + 1, 1, none⟩, .string ho2), (⟨w1.heap.size + 1, 2, none⟩, .int .i64 po2), (⟨w1.heap.size + 1, 3, none⟩, .int .i64 no2)]) (by simp only [Cells]; go_keep) hbPB; simp only [Cells] at TPB; obtain ⟨pPB0, pPB1, pPB2, pPB3, pPB4, pPB5, pPB6, pPB7, -⟩ := TPB; have zPB : wv + 1 ≤ wPB.heap.size := Nat.le_trans zPA hbPB.size; have BPB : Hid (Below w.heap.size w wPB) := BPA.out.trans (hbPB.mono BPA.out.size); clear pPA0 pPA1 pPA2 pPA3 pPA4 pPA5 pPA6 pPA7 zPA hbPA)
        try (go_wp2_with fail)
        refine hK.out _ _ ?_ (fun hH2 => ?_)
        · (try dsimp only)
          go_keep
        clear hK K hH1
        try simp only [Act.put, List.setIfInBounds_toArray, List.set_cons_zero, List.set_cons_succ]
        refine wpAnyH_take (i := 6) (oi := { dst := some 84, op := Op.unOp UnOp.not 4 (Operand.tmp 83), type := 4, pos := "laws.go:105", after := #[{ on := 5, ground := Ground.data }, { on := 3, ground := Ground.guard }], guard := some (3, false) }) (v := ?ve6) rfl (by kernel_rfl) (by kernel_rfl) (by kernel_rfl) (fun _ _ _ h => h) (Or.inl ⟨by rfl, ?hye6⟩) (by assumption) ?reste6
        case hye6 =>
          intro w hSw
          (try dsimp only at hSw)
          go_simp
          try with_reducible rfl
        try simp only [Act.put, List.setIfInBounds_toArray, List.set_cons_zero, List.set_cons_succ]
        refine wpAnyH_take (i := 7) (oi := { dst := some 85, op := Op.pick (Operand.tmp 81) (Operand.const (Value.bool true)) (Operand.tmp 84), type := 4, pos := "laws.go:105", after := #[{ on := 3, ground := Ground.data }, { on := 6, ground := Ground.data }], guard := none }) (v := ?ve7) rfl (by kernel_rfl) (by kernel_rfl) (by kernel_rfl) (fun _ _ _ h => h) (Or.inl ⟨by rfl, ?hye7⟩) (by assumption) ?reste7
        case hye7 =>
          intro w hSw
          (try dsimp only at hSw)
          go_simp
          try with_reducible rfl
        try simp only [Act.put, List.setIfInBounds_toArray, List.set_cons_zero, List.set_cons_succ]
        refine wpAnyH_take (i := 8) (oi := { dst := some 86, op := Op.move (Operand.tmp 85), type := 4, pos := "laws.go:105", after := #[{ on := 7, ground := Ground.data }, { on := 5, ground := Ground.chain }], guard := none }) (v := ?ve8) rfl (by kernel_rfl) (by kernel_rfl) (by kernel_rfl) (fun _ _ _ h => h) (Or.inl ⟨by rfl, ?hye8⟩) (by assumption) ?reste8
        case hye8 =>
          intro w hSw
          (try dsimp only at hSw)
          go_simp
          try with_reducible rfl
        try simp only [Act.put, List.setIfInBounds_toArray, List.set_cons_zero, List.set_cons_succ]
        refine wpAnyH_take (i := 9) (oi := { dst := some 87, op := Op.move (Operand.tmp 8), type := 4, pos := "laws.go:105", after := #[{ on := 8, ground := Ground.guard }], guard := some (8, false) }) (v := ?ve9) rfl (by kernel_rfl) (by kernel_rfl) (by kernel_rfl) (fun _ _ _ h => h) (Or.inl ⟨by rfl, ?hye9⟩) (by assumption) ?reste9
        case hye9 =>
          intro w hSw
          (try dsimp only at hSw)
          go_simp
          try with_reducible rfl
        try simp only [Act.put, List.setIfInBounds_toArray, List.set_cons_zero, List.set_cons_succ]
        refine wpAnyH_take (i := 10) (oi := { dst := some 88, op := Op.load 47 (Operand.tmp 5), type := 47, pos := "laws.go:105", after := #[{ on := 8, ground := Ground.guard }], guard := some (8, false) }) (v := ?ve10) rfl (by kernel_rfl) (by kernel_rfl) (by kernel_rfl) (fun _ _ _ h => h) (Or.inl ⟨by rfl, ?hye10⟩) (by assumption) ?reste10
        case hye10 =>
          intro w hSw
          (try dsimp only at hSw)
          go_simp
          try with_reducible rfl
        try simp only [Act.put, List.setIfInBounds_toArray, List.set_cons_zero, List.set_cons_succ]
        refine wpAnyH_take (i := 12) (oi := { dst := some 90, op := Op.load 47 (Operand.tmp 6), type := 47, pos := "laws.go:105", after := #[{ on := 8, ground := Ground.guard }], guard := some (8, false) }) (v := ?ve12) rfl (by kernel_rfl) (by kernel_rfl) (by kernel_rfl) (fun _ _ _ h => h) (Or.inl ⟨by rfl, ?hye12⟩) (by assumption) ?reste12
        case hye12 =>
          intro w hSw
          (try dsimp only at hSw)
          go_simp
          try with_reducible rfl
        try simp only [Act.put, List.setIfInBounds_toArray, List.set_cons_zero, List.set_cons_succ]
        refine wpAnyH_ready (rs := [11]) (by kernel_rfl) (by simp) ?_
        refine AllReadyH.cons (o := { dst := some 89, op := Op.call { callee := Callee.value (Operand.func 34), args := #[Operand.tmp 88], argTypes := #[47] }, type := 9, pos := "laws.go:105", after := #[{ on := 10, ground := Ground.data }, { on := 8, ground := Ground.chain }, { on := 8, ground := Ground.guard }], guard := some (8, false) }) rfl (fun K hK => ?_) AllReadyH.nil
        go_simp
        (go_at_call 34; refine (K3.out _ BPB.out).mono ?_; rintro e wPC ⟨rfl, hbPC⟩; have TPC := Cells.below (L := [(⟨w1.heap.size, 0, none⟩, .string sc), (⟨w1.heap.size, 1, none⟩, .string ho), (⟨w1.heap.size, 2, none⟩, .int .i64 po), (⟨w1.heap.size, 3, none⟩, .int .i64 no), (⟨w1.heap.size + 1, 0, none⟩, .string sc2), (⟨w1.heap.size + 1, 1, none⟩, .string ho2), (⟨w1.heap.size + 1, 2, none⟩, .int .i64 po2), (⟨w1.heap.size + 1, 3, none⟩, .int .i64 no2)]) (by simp only [Cells]; go_keep) hbPC; simp only [Cells] at TPC; obtain ⟨pPC0, pPC1, pPC2, pPC3, pPC4, pPC5, pPC6, pPC7, -⟩ := TPC; have zPC : wv + 1 ≤ wPC.heap.size := Nat.le_trans zPB hbPC.size; have BPC : Hid (Below w.heap.size w wPC) := BPB.out.trans (hbPC.mono BPB.out.size); clear pPB0 pPB1 pPB2 pPB3 pPB4 pPB5 pPB6 pPB7 zPB hbPB)
        try (go_wp2_with fail)
        refine hK.out _ _ ?_ (fun hH3 => ?_)
        · (try dsimp only)
          go_keep
        clear hK K hH2
        try simp only [Act.put, List.setIfInBounds_toArray, List.set_cons_zero, List.set_cons_succ]
        refine wpAnyH_ready (rs := [13]) (by kernel_rfl) (by simp) ?_
        refine AllReadyH.cons (o := { dst := some 91, op := Op.call { callee := Callee.value (Operand.func 34), args := #[Operand.tmp 90], argTypes := #[47] }, type := 9, pos := "laws.go:105", after := #[{ on := 12, ground := Ground.data }, { on := 11, ground := Ground.chain }, { on := 8, ground := Ground.guard }], guard := some (8, false) }) rfl (fun K hK => ?_) AllReadyH.nil
        go_simp
        (go_at_call 34; refine (K5.out _ BPC.out).mono ?_; rintro e wPD ⟨rfl, hbPD⟩; have TPD := Cells.below (L := [(⟨w1.heap.size, 0, none⟩, .string sc), (⟨w1.heap.size, 1, none⟩, .string ho), (⟨w1.heap.size, 2, none⟩, .int .i64 po), (⟨w1.heap.size, 3, none⟩, .int .i64 no), (⟨w1.heap.size + 1, 0, none⟩, .string sc2), (⟨w1.heap.size + 1, 1, none⟩, .string ho2), (⟨w1.heap.size + 1, 2, none⟩, .int .i64 po2), (⟨w1.heap.size + 1, 3, none⟩, .int .i64 no2)]) (by simp only [Cells]; go_keep) hbPD; simp only [Cells] at TPD; obtain ⟨pPD0, pPD1, pPD2, pPD3, pPD4, pPD5, pPD6, pPD7, -⟩ := TPD; have zPD : wv + 1 ≤ wPD.heap.size := Nat.le_trans zPC hbPD.size; have BPD : Hid (Below w.heap.size w wPD) := BPC.out.trans (hbPD.mono BPC.out.size); clear pPC0 pPC1 pPC2 pPC3 pPC4 pPC5 pPC6 pPC7 zPC hbPC)
        try (go_wp2_with fail)
        refine hK.out _ _ ?_ (fun hH4 => ?_)
        · (try dsimp only)
          go_keep
        clear hK K hH3
        try simp only [Act.put, List.setIfInBounds_toArray, List.set_cons_zero, List.set_cons_succ]
        refine wpAnyH_take (i := 14) (oi := { dst := some 92, op := Op.binOp BinOp.eql 9 (Operand.tmp 89) (Operand.tmp 91) 9, type := 4, pos := "laws.go:105", after := #[{ on := 11, ground := Ground.data }, { on := 13, ground := Ground.data }, { on := 8, ground := Ground.guard }], guard := some (8, false) }) (v := ?ve14) rfl (by kernel_rfl) (by kernel_rfl) (by kernel_rfl) (fun _ _ _ h => h) (Or.inl ⟨by rfl, ?hye14⟩) (by assumption) ?reste14
        case hye14 =>
          intro w hSw
          (try dsimp only at hSw)
          go_simp
          try with_reducible rfl
        try simp only [Act.put, List.setIfInBounds_toArray, List.set_cons_zero, List.set_cons_succ]
        refine wpAnyH_take (i := 15) (oi := { dst := some 93, op := Op.binOp BinOp.eql 4 (Operand.tmp 87) (Operand.tmp 92) 4, type := 4, pos := "laws.go:105", after := #[{ on := 9, ground := Ground.data }, { on := 14, ground := Ground.data }, { on := 8, ground := Ground.guard }], guard := some (8, false) }) (v := ?ve15) rfl (by kernel_rfl) (by kernel_rfl) (by kernel_rfl) (fun _ _ _ h => h) (Or.inl ⟨by rfl, ?hye15⟩) (by assumption) ?reste15
        case hye15 =>
          intro w hSw
          (try dsimp only at hSw)
          go_simp
          try with_reducible rfl
        try simp only [Act.put, List.setIfInBounds_toArray, List.set_cons_zero, List.set_cons_succ]
        refine wpAnyH_take (i := 16) (oi := { dst := some 94, op := Op.pick (Operand.tmp 86) (Operand.const (Value.bool true)) (Operand.tmp 93), type := 4, pos := "laws.go:105", after := #[{ on := 8, ground := Ground.data }, { on := 15, ground := Ground.data }], guard := none }) (v := ?ve16) rfl (by kernel_rfl) (by kernel_rfl) (by kernel_rfl) (fun _ _ _ h => h) (Or.inl ⟨by rfl, ?hye16⟩) (by assumption) ?reste16
        case hye16 =>
          intro w hSw
          (try dsimp only at hSw)
          go_simp
          try with_reducible rfl
        try simp only [Act.put, List.setIfInBounds_toArray, List.set_cons_zero, List.set_cons_succ]
        refine wpAnyH_take (i := 17) (oi := { dst := some 4, op := Op.assign (Operand.tmp 94), type := 4, pos := "laws.go:105", after := #[{ on := 16, ground := Ground.data }, { on := 13, ground := Ground.chain }, { on := 0, ground := Ground.phase }, { on := 1, ground := Ground.phase }, { on := 2, ground := Ground.phase }, { on := 3, ground := Ground.phase }, { on := 4, ground := Ground.phase }, { on := 5, ground := Ground.phase }, { on := 6, ground := Ground.phase }, { on := 7, ground := Ground.phase }, { on := 8, ground := Ground.phase }, { on := 9, ground := Ground.phase }, { on := 10, ground := Ground.phase }, { on := 11, ground := Ground.phase }, { on := 12, ground := Ground.phase }, { on := 13, ground := Ground.phase }, { on := 14, ground := Ground.phase }, { on := 15, ground := Ground.phase }, { on := 16, ground := Ground.phase }], guard := none }) (v := ?ve17) rfl (by kernel_rfl) (by kernel_rfl) (by kernel_rfl) (fun _ _ _ h => h) (Or.inl ⟨by rfl, ?hye17⟩) (by assumption) ?reste17
        case hye17 =>
          intro w hSw
          (try dsimp only at hSw)
          go_simp
          try with_reducible rfl
        try simp only [Act.put, List.setIfInBounds_toArray, List.set_cons_zero, List.set_cons_succ]
        refine wpAnyH_done (by kernel_rfl) ?_ _
        go_wp2
        go_ret
        exact ⟨rfl, BPD.out⟩
  | false =>
    refine wp_region_held_drew (S := (fun w' => wv + 1 ≤ w'.heap.size ∧ w'.cell? ⟨w1.heap.size, 0, none⟩ = some (.string sc) ∧ w'.cell? ⟨w1.heap.size, 1, none⟩ = some (.string ho) ∧ w'.cell? ⟨w1.heap.size, 2, none⟩ = some (.int .i64 po) ∧ w'.cell? ⟨w1.heap.size, 3, none⟩ = some (.int .i64 no) ∧ w'.cell? ⟨w1.heap.size + 1, 0, none⟩ = some (.string sc2) ∧ w'.cell? ⟨w1.heap.size + 1, 1, none⟩ = some (.string ho2) ∧ w'.cell? ⟨w1.heap.size + 1, 2, none⟩ = some (.int .i64 po2) ∧ w'.cell? ⟨w1.heap.size + 1, 3, none⟩ = some (.int .i64 no2) ∧ w'.cell? ⟨w2.heap.size, 0, none⟩ = some (.string us) ∧ w'.cell? ⟨w2.heap.size, 1, none⟩ = some (.string uh) ∧ w'.cell? ⟨w2.heap.size, 2, none⟩ = some (.int .i64 uo) ∧ w'.cell? ⟨w2.heap.size, 3, none⟩ = some (.string up) ∧ w'.cell? ⟨w4.heap.size, 0, none⟩ = some (.string x) ∧ w'.cell? ⟨w4.heap.size, 1, none⟩ = some (.string y) ∧ w'.cell? ⟨w4.heap.size, 2, none⟩ = some (.int .i64 z) ∧ w'.cell? ⟨w4.heap.size, 3, none⟩ = some (.int .i64 k) ∧ w'.cell? ⟨wv, 0, none⟩ = some (.string us) ∧ w'.cell? ⟨wv, 1, none⟩ = some (.string uh) ∧ w'.cell? ⟨wv, 2, none⟩ = some (.int .i64 uo) ∧ w'.cell? ⟨wv, 3, none⟩ = some (.string ⟨#[47, 101, 108, 115, 101]⟩))) (by kernel_rfl) ?_ (fun hH0 => ?_)
    · (try dsimp only)
      go_keep
    refine wpAnyH_take (i := 0) (oi := { dst := some 65, op := Op.load 35 (Operand.tmp 7), type := 35, pos := "laws.go:102", after := #[], guard := none }) (v := ?vf0) rfl (by kernel_rfl) (by kernel_rfl) (by kernel_rfl) (fun _ _ _ h => h) (Or.inl ⟨by rfl, ?hyf0⟩) (by assumption) ?restf0
    case hyf0 =>
      intro w hSw
      (try dsimp only at hSw)
      go_simp
      try with_reducible rfl
    try simp only [Act.put, List.setIfInBounds_toArray, List.set_cons_zero, List.set_cons_succ]
    refine wpAnyH_ready (rs := [1]) (by kernel_rfl) (by simp) ?_
    refine AllReadyH.cons (o := { dst := some 66, op := Op.call { callee := Callee.value (Operand.func 21), args := #[Operand.tmp 65], argTypes := #[35] }, type := 4, pos := "laws.go:102", after := #[{ on := 0, ground := Ground.data }], guard := none }) rfl (fun K hK => ?_) AllReadyH.nil
    go_simp
    (go_at_call 21; refine (K10.out _).mono ?_; rintro e wI ⟨rfl, hbI⟩; have TI := Cells.below (L := [(⟨w1.heap.size, 0, none⟩, .string sc), (⟨w1.heap.size, 1, none⟩, .string ho), (⟨w1.heap.size, 2, none⟩, .int .i64 po), (⟨w1.heap.size, 3, none⟩, .int .i64 no), (⟨w1.heap.size + 1, 0, none⟩, .string sc2), (⟨w1.heap.size + 1, 1, none⟩, .string ho2), (⟨w1.heap.size + 1, 2, none⟩, .int .i64 po2), (⟨w1.heap.size + 1, 3, none⟩, .int .i64 no2), (⟨w2.heap.size, 0, none⟩, .string us), (⟨w2.heap.size, 1, none⟩, .string uh), (⟨w2.heap.size, 2, none⟩, .int .i64 uo), (⟨w2.heap.size, 3, none⟩, .string up), (⟨w4.heap.size, 0, none⟩, .string x), (⟨w4.heap.size, 1, none⟩, .string y), (⟨w4.heap.size, 2, none⟩, .int .i64 z), (⟨w4.heap.size, 3, none⟩, .int .i64 k), (⟨wv, 0, none⟩, .string us), (⟨wv, 1, none⟩, .string uh), (⟨wv, 2, none⟩, .int .i64 uo), (⟨wv, 3, none⟩, .string ⟨#[47, 101, 108, 115, 101]⟩)]) (by simp only [Cells]; go_keep) hbI; simp only [Cells] at TI; obtain ⟨pI0, pI1, pI2, pI3, pI4, pI5, pI6, pI7, pI8, pI9, pI10, pI11, pI12, pI13, pI14, pI15, pI16, pI17, pI18, pI19, -⟩ := TI; have zI : wv + 1 ≤ wI.heap.size := Nat.le_trans z9 hbI.size; have BI : Hid (Below w.heap.size w wI) := (B9.out.trans (Below.drew (Below.refl _ _))).trans (hbI.mono (by have := B9.out.size; simpa using this)))
    try (go_wp2_with fail)
    refine hK.out _ _ ?_ (fun hH1 => ?_)
    · (try dsimp only)
      go_keep
    clear hK K hH0
    try simp only [Act.put, List.setIfInBounds_toArray, List.set_cons_zero, List.set_cons_succ]
    refine wpAnyH_take (i := 2) (oi := { dst := some 67, op := Op.move (Operand.tmp 66), type := 4, pos := "laws.go:102", after := #[{ on := 1, ground := Ground.data }, { on := 1, ground := Ground.chain }], guard := none }) (v := ?vf2) rfl (by kernel_rfl) (by kernel_rfl) (by kernel_rfl) (fun _ _ _ h => h) (Or.inl ⟨by rfl, ?hyf2⟩) (by assumption) ?restf2
    case hyf2 =>
      intro w hSw
      (try dsimp only at hSw)
      go_simp
      try with_reducible rfl
    try simp only [Act.put, List.setIfInBounds_toArray, List.set_cons_zero, List.set_cons_succ]
    refine wpAnyH_take (i := 3) (oi := { dst := some 68, op := Op.load 35 (Operand.tmp 10), type := 35, pos := "laws.go:102", after := #[{ on := 2, ground := Ground.guard }], guard := some (2, true) }) (v := undef) rfl (by kernel_rfl) (by kernel_rfl) (by kernel_rfl) (fun _ _ _ h => h) (Or.inr ⟨by rfl, rfl⟩) (by assumption) ?_
    try simp only [Act.put, List.setIfInBounds_toArray, List.set_cons_zero, List.set_cons_succ]
    refine wpAnyH_take (i := 4) (oi := { dst := some 69, op := Op.call { callee := Callee.value (Operand.func 31), args := #[Operand.tmp 68], argTypes := #[35] }, type := 47, pos := "laws.go:102", after := #[{ on := 3, ground := Ground.data }, { on := 2, ground := Ground.chain }, { on := 2, ground := Ground.guard }], guard := some (2, true) }) (v := undef) rfl (by kernel_rfl) (by kernel_rfl) (by kernel_rfl) (fun _ _ _ h => h) (Or.inr ⟨by rfl, rfl⟩) (by assumption) ?_
    try simp only [Act.put, List.setIfInBounds_toArray, List.set_cons_zero, List.set_cons_succ]
    refine wpAnyH_take (i := 5) (oi := { dst := some 70, op := Op.load 47 (Operand.tmp 9), type := 47, pos := "laws.go:102", after := #[{ on := 2, ground := Ground.guard }], guard := some (2, true) }) (v := undef) rfl (by kernel_rfl) (by kernel_rfl) (by kernel_rfl) (fun _ _ _ h => h) (Or.inr ⟨by rfl, rfl⟩) (by assumption) ?_
    try simp only [Act.put, List.setIfInBounds_toArray, List.set_cons_zero, List.set_cons_succ]
    refine wpAnyH_take (i := 6) (oi := { dst := some 71, op := Op.binOp BinOp.neq 47 (Operand.tmp 69) (Operand.tmp 70) 47, type := 4, pos := "laws.go:102", after := #[{ on := 4, ground := Ground.data }, { on := 5, ground := Ground.data }, { on := 2, ground := Ground.guard }], guard := some (2, true) }) (v := undef) rfl (by kernel_rfl) (by kernel_rfl) (by kernel_rfl) (fun _ _ _ h => h) (Or.inr ⟨by rfl, rfl⟩) (by assumption) ?_
    try simp only [Act.put, List.setIfInBounds_toArray, List.set_cons_zero, List.set_cons_succ]
    refine wpAnyH_take (i := 7) (oi := { dst := some 72, op := Op.move (Operand.tmp 71), type := 4, pos := "laws.go:102", after := #[{ on := 6, ground := Ground.data }, { on := 4, ground := Ground.chain }, { on := 2, ground := Ground.guard }], guard := some (2, true) }) (v := undef) rfl (by kernel_rfl) (by kernel_rfl) (by kernel_rfl) (fun _ _ _ h => h) (Or.inr ⟨by rfl, rfl⟩) (by assumption) ?_
    try simp only [Act.put, List.setIfInBounds_toArray, List.set_cons_zero, List.set_cons_succ]
    refine wpAnyH_take (i := 8) (oi := { dst := some 73, op := Op.load 47 (Operand.tmp 9), type := 47, pos := "laws.go:102", after := #[{ on := 7, ground := Ground.guard }], guard := some (7, false) }) (v := undef) rfl (by kernel_rfl) (by kernel_rfl) (by kernel_rfl) (fun _ _ _ h => h) (Or.inr ⟨by rfl, rfl⟩) (by assumption) ?_
    try simp only [Act.put, List.setIfInBounds_toArray, List.set_cons_zero, List.set_cons_succ]
    refine wpAnyH_take (i := 9) (oi := { dst := some 74, op := Op.call { callee := Callee.value (Operand.func 36), args := #[Operand.tmp 73], argTypes := #[47] }, type := 4, pos := "laws.go:102", after := #[{ on := 8, ground := Ground.data }, { on := 7, ground := Ground.chain }, { on := 7, ground := Ground.guard }], guard := some (7, false) }) (v := undef) rfl (by kernel_rfl) (by kernel_rfl) (by kernel_rfl) (fun _ _ _ h => h) (Or.inr ⟨by rfl, rfl⟩) (by assumption) ?_
    try simp only [Act.put, List.setIfInBounds_toArray, List.set_cons_zero, List.set_cons_succ]
    refine wpAnyH_take (i := 10) (oi := { dst := some 75, op := Op.unOp UnOp.not 4 (Operand.tmp 74), type := 4, pos := "laws.go:102", after := #[{ on := 9, ground := Ground.data }, { on := 7, ground := Ground.guard }], guard := some (7, false) }) (v := undef) rfl (by kernel_rfl) (by kernel_rfl) (by kernel_rfl) (fun _ _ _ h => h) (Or.inr ⟨by rfl, rfl⟩) (by assumption) ?_
    try simp only [Act.put, List.setIfInBounds_toArray, List.set_cons_zero, List.set_cons_succ]
    refine wpAnyH_take (i := 11) (oi := { dst := some 76, op := Op.pick (Operand.tmp 72) (Operand.const (Value.bool true)) (Operand.tmp 75), type := 4, pos := "laws.go:102", after := #[{ on := 7, ground := Ground.data }, { on := 10, ground := Ground.data }, { on := 2, ground := Ground.guard }], guard := some (2, true) }) (v := undef) rfl (by kernel_rfl) (by kernel_rfl) (by kernel_rfl) (fun _ _ _ h => h) (Or.inr ⟨by rfl, rfl⟩) (by assumption) ?_
    try simp only [Act.put, List.setIfInBounds_toArray, List.set_cons_zero, List.set_cons_succ]
    refine wpAnyH_take (i := 12) (oi := { dst := some 77, op := Op.pick (Operand.tmp 67) (Operand.tmp 76) (Operand.const (Value.bool false)), type := 4, pos := "laws.go:102", after := #[{ on := 2, ground := Ground.data }, { on := 11, ground := Ground.data }], guard := none }) (v := ?vf12) rfl (by kernel_rfl) (by kernel_rfl) (by kernel_rfl) (fun _ _ _ h => h) (Or.inl ⟨by rfl, ?hyf12⟩) (by assumption) ?restf12
    case hyf12 =>
      intro w hSw
      (try dsimp only at hSw)
      go_simp
      try with_reducible rfl
    try simp only [Act.put, List.setIfInBounds_toArray, List.set_cons_zero, List.set_cons_succ]
    refine wpAnyH_done (by kernel_rfl) ?_ _
    clear hbI f0 f1 f2 f3 f4 f5 f6 f7 f8 f9 f10 f11 f12 f13 f14 f15 f16 f17 f18 f19
    go_wp2_with fail
    cases ra with
    | false =>
      refine wp_region_held_drew (S := (fun w' => wv + 1 ≤ w'.heap.size ∧ w'.cell? ⟨w1.heap.size, 0, none⟩ = some (.string sc) ∧ w'.cell? ⟨w1.heap.size, 1, none⟩ = some (.string ho) ∧ w'.cell? ⟨w1.heap.size, 2, none⟩ = some (.int .i64 po) ∧ w'.cell? ⟨w1.heap.size, 3, none⟩ = some (.int .i64 no) ∧ w'.cell? ⟨w1.heap.size + 1, 0, none⟩ = some (.string sc2) ∧ w'.cell? ⟨w1.heap.size + 1, 1, none⟩ = some (.string ho2) ∧ w'.cell? ⟨w1.heap.size + 1, 2, none⟩ = some (.int .i64 po2) ∧ w'.cell? ⟨w1.heap.size + 1, 3, none⟩ = some (.int .i64 no2))) (by kernel_rfl) ?_ (fun hH0 => ?_)
      · (try dsimp only)
        go_keep
      refine wpAnyH_take (i := 0) (oi := { dst := some 78, op := Op.load 47 (Operand.tmp 5), type := 47, pos := "laws.go:105", after := #[], guard := none }) (v := ?vg0) rfl (by kernel_rfl) (by kernel_rfl) (by kernel_rfl) (fun _ _ _ h => h) (Or.inl ⟨by rfl, ?hyg0⟩) (by assumption) ?restg0
      case hyg0 =>
        intro w hSw
        (try dsimp only at hSw)
        go_simp
        try with_reducible rfl
      try simp only [Act.put, List.setIfInBounds_toArray, List.set_cons_zero, List.set_cons_succ]
      refine wpAnyH_ready (rs := [1]) (by kernel_rfl) (by simp) ?_
      refine AllReadyH.cons (o := { dst := some 79, op := Op.call { callee := Callee.value (Operand.func 37), args := #[Operand.tmp 78], argTypes := #[47] }, type := 4, pos := "laws.go:105", after := #[{ on := 0, ground := Ground.data }], guard := none }) rfl (fun K hK => ?_) AllReadyH.nil
      go_simp
      (go_at_call 37; refine (K8.out _).mono ?_; rintro e wQA ⟨rfl, hbQA⟩; have TQA := Cells.below (L := [(⟨w1.heap.size, 0, none⟩, .string sc), (⟨w1.heap.size, 1, none⟩, .string ho), (⟨w1.heap.size, 2, none⟩, .int .i64 po), (⟨w1.heap.size, 3, none⟩, .int .i64 no), (⟨w1.heap.size + 1, 0, none⟩, .string sc2), (⟨w1.heap.size + 1, 1, none⟩, .string ho2), (⟨w1.heap.size + 1, 2, none⟩, .int .i64 po2), (⟨w1.heap.size + 1, 3, none⟩, .int .i64 no2)]) (by simp only [Cells]; go_keep) hbQA; simp only [Cells] at TQA; obtain ⟨pQA0, pQA1, pQA2, pQA3, pQA4, pQA5, pQA6, pQA7, -⟩ := TQA; have zQA : wv + 1 ≤ wQA.heap.size := Nat.le_trans zI hbQA.size; have BQA : Hid (Below w.heap.size w wQA) := (BI.out.trans (Below.drew (Below.refl _ _))).trans (hbQA.mono (by have := BI.out.size; simpa using this)))
      try (go_wp2_with fail)
      refine hK.out _ _ ?_ (fun hH1 => ?_)
      · (try dsimp only)
        go_keep
      clear hK K hH0
      try simp only [Act.put, List.setIfInBounds_toArray, List.set_cons_zero, List.set_cons_succ]
      refine wpAnyH_take (i := 2) (oi := { dst := some 80, op := Op.unOp UnOp.not 4 (Operand.tmp 79), type := 4, pos := "laws.go:105", after := #[{ on := 1, ground := Ground.data }], guard := none }) (v := ?vg2) rfl (by kernel_rfl) (by kernel_rfl) (by kernel_rfl) (fun _ _ _ h => h) (Or.inl ⟨by rfl, ?hyg2⟩) (by assumption) ?restg2
      case hyg2 =>
        intro w hSw
        (try dsimp only at hSw)
        go_simp
        try with_reducible rfl
      try simp only [Act.put, List.setIfInBounds_toArray, List.set_cons_zero, List.set_cons_succ]
      refine wpAnyH_take (i := 3) (oi := { dst := some 81, op := Op.move (Operand.tmp 80), type := 4, pos := "laws.go:105", after := #[{ on := 2, ground := Ground.data }, { on := 1, ground := Ground.chain }], guard := none }) (v := ?vg3) rfl (by kernel_rfl) (by kernel_rfl) (by kernel_rfl) (fun _ _ _ h => h) (Or.inl ⟨by rfl, ?hyg3⟩) (by assumption) ?restg3
      case hyg3 =>
        intro w hSw
        (try dsimp only at hSw)
        go_simp
        try with_reducible rfl
      try simp only [Act.put, List.setIfInBounds_toArray, List.set_cons_zero, List.set_cons_succ]
      refine wpAnyH_take (i := 4) (oi := { dst := some 82, op := Op.load 47 (Operand.tmp 6), type := 47, pos := "laws.go:105", after := #[{ on := 3, ground := Ground.guard }], guard := some (3, false) }) (v := undef) rfl (by kernel_rfl) (by kernel_rfl) (by kernel_rfl) (fun _ _ _ h => h) (Or.inr ⟨by rfl, rfl⟩) (by assumption) ?_
      try simp only [Act.put, List.setIfInBounds_toArray, List.set_cons_zero, List.set_cons_succ]
      refine wpAnyH_take (i := 5) (oi := { dst := some 83, op := Op.call { callee := Callee.value (Operand.func 37), args := #[Operand.tmp 82], argTypes := #[47] }, type := 4, pos := "laws.go:105", after := #[{ on := 4, ground := Ground.data }, { on := 3, ground := Ground.chain }, { on := 3, ground := Ground.guard }], guard := some (3, false) }) (v := undef) rfl (by kernel_rfl) (by kernel_rfl) (by kernel_rfl) (fun _ _ _ h => h) (Or.inr ⟨by rfl, rfl⟩) (by assumption) ?_
      try simp only [Act.put, List.setIfInBounds_toArray, List.set_cons_zero, List.set_cons_succ]
      refine wpAnyH_take (i := 6) (oi := { dst := some 84, op := Op.unOp UnOp.not 4 (Operand.tmp 83), type := 4, pos := "laws.go:105", after := #[{ on := 5, ground := Ground.data }, { on := 3, ground := Ground.guard }], guard := some (3, false) }) (v := undef) rfl (by kernel_rfl) (by kernel_rfl) (by kernel_rfl) (fun _ _ _ h => h) (Or.inr ⟨by rfl, rfl⟩) (by assumption) ?_
      try simp only [Act.put, List.setIfInBounds_toArray, List.set_cons_zero, List.set_cons_succ]
      refine wpAnyH_take (i := 7) (oi := { dst := some 85, op := Op.pick (Operand.tmp 81) (Operand.const (Value.bool true)) (Operand.tmp 84), type := 4, pos := "laws.go:105", after := #[{ on := 3, ground := Ground.data }, { on := 6, ground := Ground.data }], guard := none }) (v := ?vg7) rfl (by kernel_rfl) (by kernel_rfl) (by kernel_rfl) (fun _ _ _ h => h) (Or.inl ⟨by rfl, ?hyg7⟩) (by assumption) ?restg7
      case hyg7 =>
        intro w hSw
        (try dsimp only at hSw)
        go_simp
        try with_reducible rfl
      try simp only [Act.put, List.setIfInBounds_toArray, List.set_cons_zero, List.set_cons_succ]
      refine wpAnyH_take (i := 8) (oi := { dst := some 86, op := Op.move (Operand.tmp 85), type := 4, pos := "laws.go:105", after := #[{ on := 7, ground := Ground.data }, { on := 5, ground := Ground.chain }], guard := none }) (v := ?vg8) rfl (by kernel_rfl) (by kernel_rfl) (by kernel_rfl) (fun _ _ _ h => h) (Or.inl ⟨by rfl, ?hyg8⟩) (by assumption) ?restg8
      case hyg8 =>
        intro w hSw
        (try dsimp only at hSw)
        go_simp
        try with_reducible rfl
      try simp only [Act.put, List.setIfInBounds_toArray, List.set_cons_zero, List.set_cons_succ]
      refine wpAnyH_take (i := 9) (oi := { dst := some 87, op := Op.move (Operand.tmp 8), type := 4, pos := "laws.go:105", after := #[{ on := 8, ground := Ground.guard }], guard := some (8, false) }) (v := undef) rfl (by kernel_rfl) (by kernel_rfl) (by kernel_rfl) (fun _ _ _ h => h) (Or.inr ⟨by rfl, rfl⟩) (by assumption) ?_
      try simp only [Act.put, List.setIfInBounds_toArray, List.set_cons_zero, List.set_cons_succ]
      refine wpAnyH_take (i := 10) (oi := { dst := some 88, op := Op.load 47 (Operand.tmp 5), type := 47, pos := "laws.go:105", after := #[{ on := 8, ground := Ground.guard }], guard := some (8, false) }) (v := undef) rfl (by kernel_rfl) (by kernel_rfl) (by kernel_rfl) (fun _ _ _ h => h) (Or.inr ⟨by rfl, rfl⟩) (by assumption) ?_
      try simp only [Act.put, List.setIfInBounds_toArray, List.set_cons_zero, List.set_cons_succ]
      refine wpAnyH_take (i := 11) (oi := { dst := some 89, op := Op.call { callee := Callee.value (Operand.func 34), args := #[Operand.tmp 88], argTypes := #[47] }, type := 9, pos := "laws.go:105", after := #[{ on := 10, ground := Ground.data }, { on := 8, ground := Ground.chain }, { on := 8, ground := Ground.guard }], guard := some (8, false) }) (v := undef) rfl (by kernel_rfl) (by kernel_rfl) (by kernel_rfl) (fun _ _ _ h => h) (Or.inr ⟨by rfl, rfl⟩) (by assumption) ?_
      try simp only [Act.put, List.setIfInBounds_toArray, List.set_cons_zero, List.set_cons_succ]
      refine wpAnyH_take (i := 12) (oi := { dst := some 90, op := Op.load 47 (Operand.tmp 6), type := 47, pos := "laws.go:105", after := #[{ on := 8, ground := Ground.guard }], guard := some (8, false) }) (v := undef) rfl (by kernel_rfl) (by kernel_rfl) (by kernel_rfl) (fun _ _ _ h => h) (Or.inr ⟨by rfl, rfl⟩) (by assumption) ?_
      try simp only [Act.put, List.setIfInBounds_toArray, List.set_cons_zero, List.set_cons_succ]
      refine wpAnyH_take (i := 13) (oi := { dst := some 91, op := Op.call { callee := Callee.value (Operand.func 34), args := #[Operand.tmp 90], argTypes := #[47] }, type := 9, pos := "laws.go:105", after := #[{ on := 12, ground := Ground.data }, { on := 11, ground := Ground.chain }, { on := 8, ground := Ground.guard }], guard := some (8, false) }) (v := undef) rfl (by kernel_rfl) (by kernel_rfl) (by kernel_rfl) (fun _ _ _ h => h) (Or.inr ⟨by rfl, rfl⟩) (by assumption) ?_
      try simp only [Act.put, List.setIfInBounds_toArray, List.set_cons_zero, List.set_cons_succ]
      refine wpAnyH_take (i := 14) (oi := { dst := some 92, op := Op.binOp BinOp.eql 9 (Operand.tmp 89) (Operand.tmp 91) 9, type := 4, pos := "laws.go:105", after := #[{ on := 11, ground := Ground.data }, { on := 13, ground := Ground.data }, { on := 8, ground := Ground.guard }], guard := some (8, false) }) (v := undef) rfl (by kernel_rfl) (by kernel_rfl) (by kernel_rfl) (fun _ _ _ h => h) (Or.inr ⟨by rfl, rfl⟩) (by assumption) ?_
      try simp only [Act.put, List.setIfInBounds_toArray, List.set_cons_zero, List.set_cons_succ]
      refine wpAnyH_take (i := 15) (oi := { dst := some 93, op := Op.binOp BinOp.eql 4 (Operand.tmp 87) (Operand.tmp 92) 4, type := 4, pos := "laws.go:105", after := #[{ on := 9, ground := Ground.data }, { on := 14, ground := Ground.data }, { on := 8, ground := Ground.guard }], guard := some (8, false) }) (v := undef) rfl (by kernel_rfl) (by kernel_rfl) (by kernel_rfl) (fun _ _ _ h => h) (Or.inr ⟨by rfl, rfl⟩) (by assumption) ?_
      try simp only [Act.put, List.setIfInBounds_toArray, List.set_cons_zero, List.set_cons_succ]
      refine wpAnyH_take (i := 16) (oi := { dst := some 94, op := Op.pick (Operand.tmp 86) (Operand.const (Value.bool true)) (Operand.tmp 93), type := 4, pos := "laws.go:105", after := #[{ on := 8, ground := Ground.data }, { on := 15, ground := Ground.data }], guard := none }) (v := ?vg16) rfl (by kernel_rfl) (by kernel_rfl) (by kernel_rfl) (fun _ _ _ h => h) (Or.inl ⟨by rfl, ?hyg16⟩) (by assumption) ?restg16
      case hyg16 =>
        intro w hSw
        (try dsimp only at hSw)
        go_simp
        try with_reducible rfl
      try simp only [Act.put, List.setIfInBounds_toArray, List.set_cons_zero, List.set_cons_succ]
      refine wpAnyH_take (i := 17) (oi := { dst := some 4, op := Op.assign (Operand.tmp 94), type := 4, pos := "laws.go:105", after := #[{ on := 16, ground := Ground.data }, { on := 13, ground := Ground.chain }, { on := 0, ground := Ground.phase }, { on := 1, ground := Ground.phase }, { on := 2, ground := Ground.phase }, { on := 3, ground := Ground.phase }, { on := 4, ground := Ground.phase }, { on := 5, ground := Ground.phase }, { on := 6, ground := Ground.phase }, { on := 7, ground := Ground.phase }, { on := 8, ground := Ground.phase }, { on := 9, ground := Ground.phase }, { on := 10, ground := Ground.phase }, { on := 11, ground := Ground.phase }, { on := 12, ground := Ground.phase }, { on := 13, ground := Ground.phase }, { on := 14, ground := Ground.phase }, { on := 15, ground := Ground.phase }, { on := 16, ground := Ground.phase }], guard := none }) (v := ?vg17) rfl (by kernel_rfl) (by kernel_rfl) (by kernel_rfl) (fun _ _ _ h => h) (Or.inl ⟨by rfl, ?hyg17⟩) (by assumption) ?restg17
      case hyg17 =>
        intro w hSw
        (try dsimp only at hSw)
        go_simp
        try with_reducible rfl
      try simp only [Act.put, List.setIfInBounds_toArray, List.set_cons_zero, List.set_cons_succ]
      refine wpAnyH_done (by kernel_rfl) ?_ _
      go_wp2
      go_ret
      exact ⟨rfl, BQA.out⟩
    | true =>
      cases rb with
      | false =>
        refine wp_region_held_drew (S := (fun w' => wv + 1 ≤ w'.heap.size ∧ w'.cell? ⟨w1.heap.size, 0, none⟩ = some (.string sc) ∧ w'.cell? ⟨w1.heap.size, 1, none⟩ = some (.string ho) ∧ w'.cell? ⟨w1.heap.size, 2, none⟩ = some (.int .i64 po) ∧ w'.cell? ⟨w1.heap.size, 3, none⟩ = some (.int .i64 no) ∧ w'.cell? ⟨w1.heap.size + 1, 0, none⟩ = some (.string sc2) ∧ w'.cell? ⟨w1.heap.size + 1, 1, none⟩ = some (.string ho2) ∧ w'.cell? ⟨w1.heap.size + 1, 2, none⟩ = some (.int .i64 po2) ∧ w'.cell? ⟨w1.heap.size + 1, 3, none⟩ = some (.int .i64 no2))) (by kernel_rfl) ?_ (fun hH0 => ?_)
        · (try dsimp only)
          go_keep
        refine wpAnyH_take (i := 0) (oi := { dst := some 78, op := Op.load 47 (Operand.tmp 5), type := 47, pos := "laws.go:105", after := #[], guard := none }) (v := ?vh0) rfl (by kernel_rfl) (by kernel_rfl) (by kernel_rfl) (fun _ _ _ h => h) (Or.inl ⟨by rfl, ?hyh0⟩) (by assumption) ?resth0
        case hyh0 =>
          intro w hSw
          (try dsimp only at hSw)
          go_simp
          try with_reducible rfl
        try simp only [Act.put, List.setIfInBounds_toArray, List.set_cons_zero, List.set_cons_succ]
        refine wpAnyH_ready (rs := [1]) (by kernel_rfl) (by simp) ?_
        refine AllReadyH.cons (o := { dst := some 79, op := Op.call { callee := Callee.value (Operand.func 37), args := #[Operand.tmp 78], argTypes := #[47] }, type := 4, pos := "laws.go:105", after := #[{ on := 0, ground := Ground.data }], guard := none }) rfl (fun K hK => ?_) AllReadyH.nil
        go_simp
        (go_at_call 37; refine (K8.out _).mono ?_; rintro e wQA ⟨rfl, hbQA⟩; have TQA := Cells.below (L := [(⟨w1.heap.size, 0, none⟩, .string sc), (⟨w1.heap.size, 1, none⟩, .string ho), (⟨w1.heap.size, 2, none⟩, .int .i64 po), (⟨w1.heap.size, 3, none⟩, .int .i64 no), (⟨w1.heap.size + 1, 0, none⟩, .string sc2), (⟨w1.heap.size + 1, 1, none⟩, .string ho2), (⟨w1.heap.size + 1, 2, none⟩, .int .i64 po2), (⟨w1.heap.size + 1, 3, none⟩, .int .i64 no2)]) (by simp only [Cells]; go_keep) hbQA; simp only [Cells] at TQA; obtain ⟨pQA0, pQA1, pQA2, pQA3, pQA4, pQA5, pQA6, pQA7, -⟩ := TQA; have zQA : wv + 1 ≤ wQA.heap.size := Nat.le_trans zI hbQA.size; have BQA : Hid (Below w.heap.size w wQA) := (BI.out.trans (Below.drew (Below.refl _ _))).trans (hbQA.mono (by have := BI.out.size; simpa using this)))
        try (go_wp2_with fail)
        refine hK.out _ _ ?_ (fun hH1 => ?_)
        · (try dsimp only)
          go_keep
        clear hK K hH0
        try simp only [Act.put, List.setIfInBounds_toArray, List.set_cons_zero, List.set_cons_succ]
        refine wpAnyH_take (i := 2) (oi := { dst := some 80, op := Op.unOp UnOp.not 4 (Operand.tmp 79), type := 4, pos := "laws.go:105", after := #[{ on := 1, ground := Ground.data }], guard := none }) (v := ?vh2) rfl (by kernel_rfl) (by kernel_rfl) (by kernel_rfl) (fun _ _ _ h => h) (Or.inl ⟨by rfl, ?hyh2⟩) (by assumption) ?resth2
        case hyh2 =>
          intro w hSw
          (try dsimp only at hSw)
          go_simp
          try with_reducible rfl
        try simp only [Act.put, List.setIfInBounds_toArray, List.set_cons_zero, List.set_cons_succ]
        refine wpAnyH_take (i := 3) (oi := { dst := some 81, op := Op.move (Operand.tmp 80), type := 4, pos := "laws.go:105", after := #[{ on := 2, ground := Ground.data }, { on := 1, ground := Ground.chain }], guard := none }) (v := ?vh3) rfl (by kernel_rfl) (by kernel_rfl) (by kernel_rfl) (fun _ _ _ h => h) (Or.inl ⟨by rfl, ?hyh3⟩) (by assumption) ?resth3
        case hyh3 =>
          intro w hSw
          (try dsimp only at hSw)
          go_simp
          try with_reducible rfl
        try simp only [Act.put, List.setIfInBounds_toArray, List.set_cons_zero, List.set_cons_succ]
        refine wpAnyH_take (i := 4) (oi := { dst := some 82, op := Op.load 47 (Operand.tmp 6), type := 47, pos := "laws.go:105", after := #[{ on := 3, ground := Ground.guard }], guard := some (3, false) }) (v := ?vh4) rfl (by kernel_rfl) (by kernel_rfl) (by kernel_rfl) (fun _ _ _ h => h) (Or.inl ⟨by rfl, ?hyh4⟩) (by assumption) ?resth4
        case hyh4 =>
          intro w hSw
          (try dsimp only at hSw)
          go_simp
          try with_reducible rfl
        try simp only [Act.put, List.setIfInBounds_toArray, List.set_cons_zero, List.set_cons_succ]
        refine wpAnyH_ready (rs := [5]) (by kernel_rfl) (by simp) ?_
        refine AllReadyH.cons (o := { dst := some 83, op := Op.call { callee := Callee.value (Operand.func 37), args := #[Operand.tmp 82], argTypes := #[47] }, type := 4, pos := "laws.go:105", after := #[{ on := 4, ground := Ground.data }, { on := 3, ground := Ground.chain }, { on := 3, ground := Ground.guard }], guard := some (3, false) }) rfl (fun K hK => ?_) AllReadyH.nil
        go_simp
        (go_at_call 37; refine (K9.out _).mono ?_; rintro e wQB ⟨rfl, hbQB⟩; have TQB := Cells.below (L := [(⟨w1.heap.size, 0, none⟩, .string sc), (⟨w1.heap.size, 1, none⟩, .string ho), (⟨w1.heap.size, 2, none⟩, .int .i64 po), (⟨w1.heap.size, 3, none⟩, .int .i64 no), (⟨w1.heap.size + 1, 0, none⟩, .string sc2), (⟨w1.heap.size + 1, 1, none⟩, .string ho2), (⟨w1.heap.size + 1, 2, none⟩, .int .i64 po2), (⟨w1.heap.size + 1, 3, none⟩, .int .i64 no2)]) (by simp only [Cells]; go_keep) hbQB; simp only [Cells] at TQB; obtain ⟨pQB0, pQB1, pQB2, pQB3, pQB4, pQB5, pQB6, pQB7, -⟩ := TQB; have zQB : wv + 1 ≤ wQB.heap.size := Nat.le_trans zQA hbQB.size; have BQB : Hid (Below w.heap.size w wQB) := BQA.out.trans (hbQB.mono BQA.out.size); clear pQA0 pQA1 pQA2 pQA3 pQA4 pQA5 pQA6 pQA7 zQA hbQA)
        try (go_wp2_with fail)
        refine hK.out _ _ ?_ (fun hH2 => ?_)
        · (try dsimp only)
          go_keep
        clear hK K hH1
        try simp only [Act.put, List.setIfInBounds_toArray, List.set_cons_zero, List.set_cons_succ]
        refine wpAnyH_take (i := 6) (oi := { dst := some 84, op := Op.unOp UnOp.not 4 (Operand.tmp 83), type := 4, pos := "laws.go:105", after := #[{ on := 5, ground := Ground.data }, { on := 3, ground := Ground.guard }], guard := some (3, false) }) (v := ?vh6) rfl (by kernel_rfl) (by kernel_rfl) (by kernel_rfl) (fun _ _ _ h => h) (Or.inl ⟨by rfl, ?hyh6⟩) (by assumption) ?resth6
        case hyh6 =>
          intro w hSw
          (try dsimp only at hSw)
          go_simp
          try with_reducible rfl
        try simp only [Act.put, List.setIfInBounds_toArray, List.set_cons_zero, List.set_cons_succ]
        refine wpAnyH_take (i := 7) (oi := { dst := some 85, op := Op.pick (Operand.tmp 81) (Operand.const (Value.bool true)) (Operand.tmp 84), type := 4, pos := "laws.go:105", after := #[{ on := 3, ground := Ground.data }, { on := 6, ground := Ground.data }], guard := none }) (v := ?vh7) rfl (by kernel_rfl) (by kernel_rfl) (by kernel_rfl) (fun _ _ _ h => h) (Or.inl ⟨by rfl, ?hyh7⟩) (by assumption) ?resth7
        case hyh7 =>
          intro w hSw
          (try dsimp only at hSw)
          go_simp
          try with_reducible rfl
        try simp only [Act.put, List.setIfInBounds_toArray, List.set_cons_zero, List.set_cons_succ]
        refine wpAnyH_take (i := 8) (oi := { dst := some 86, op := Op.move (Operand.tmp 85), type := 4, pos := "laws.go:105", after := #[{ on := 7, ground := Ground.data }, { on := 5, ground := Ground.chain }], guard := none }) (v := ?vh8) rfl (by kernel_rfl) (by kernel_rfl) (by kernel_rfl) (fun _ _ _ h => h) (Or.inl ⟨by rfl, ?hyh8⟩) (by assumption) ?resth8
        case hyh8 =>
          intro w hSw
          (try dsimp only at hSw)
          go_simp
          try with_reducible rfl
        try simp only [Act.put, List.setIfInBounds_toArray, List.set_cons_zero, List.set_cons_succ]
        refine wpAnyH_take (i := 9) (oi := { dst := some 87, op := Op.move (Operand.tmp 8), type := 4, pos := "laws.go:105", after := #[{ on := 8, ground := Ground.guard }], guard := some (8, false) }) (v := undef) rfl (by kernel_rfl) (by kernel_rfl) (by kernel_rfl) (fun _ _ _ h => h) (Or.inr ⟨by rfl, rfl⟩) (by assumption) ?_
        try simp only [Act.put, List.setIfInBounds_toArray, List.set_cons_zero, List.set_cons_succ]
        refine wpAnyH_take (i := 10) (oi := { dst := some 88, op := Op.load 47 (Operand.tmp 5), type := 47, pos := "laws.go:105", after := #[{ on := 8, ground := Ground.guard }], guard := some (8, false) }) (v := undef) rfl (by kernel_rfl) (by kernel_rfl) (by kernel_rfl) (fun _ _ _ h => h) (Or.inr ⟨by rfl, rfl⟩) (by assumption) ?_
        try simp only [Act.put, List.setIfInBounds_toArray, List.set_cons_zero, List.set_cons_succ]
        refine wpAnyH_take (i := 11) (oi := { dst := some 89, op := Op.call { callee := Callee.value (Operand.func 34), args := #[Operand.tmp 88], argTypes := #[47] }, type := 9, pos := "laws.go:105", after := #[{ on := 10, ground := Ground.data }, { on := 8, ground := Ground.chain }, { on := 8, ground := Ground.guard }], guard := some (8, false) }) (v := undef) rfl (by kernel_rfl) (by kernel_rfl) (by kernel_rfl) (fun _ _ _ h => h) (Or.inr ⟨by rfl, rfl⟩) (by assumption) ?_
        try simp only [Act.put, List.setIfInBounds_toArray, List.set_cons_zero, List.set_cons_succ]
        refine wpAnyH_take (i := 12) (oi := { dst := some 90, op := Op.load 47 (Operand.tmp 6), type := 47, pos := "laws.go:105", after := #[{ on := 8, ground := Ground.guard }], guard := some (8, false) }) (v := undef) rfl (by kernel_rfl) (by kernel_rfl) (by kernel_rfl) (fun _ _ _ h => h) (Or.inr ⟨by rfl, rfl⟩) (by assumption) ?_
        try simp only [Act.put, List.setIfInBounds_toArray, List.set_cons_zero, List.set_cons_succ]
        refine wpAnyH_take (i := 13) (oi := { dst := some 91, op := Op.call { callee := Callee.value (Operand.func 34), args := #[Operand.tmp 90], argTypes := #[47] }, type := 9, pos := "laws.go:105", after := #[{ on := 12, ground := Ground.data }, { on := 11, ground := Ground.chain }, { on := 8, ground := Ground.guard }], guard := some (8, false) }) (v := undef) rfl (by kernel_rfl) (by kernel_rfl) (by kernel_rfl) (fun _ _ _ h => h) (Or.inr ⟨by rfl, rfl⟩) (by assumption) ?_
        try simp only [Act.put, List.setIfInBounds_toArray, List.set_cons_zero, List.set_cons_succ]
        refine wpAnyH_take (i := 14) (oi := { dst := some 92, op := Op.binOp BinOp.eql 9 (Operand.tmp 89) (Operand.tmp 91) 9, type := 4, pos := "laws.go:105", after := #[{ on := 11, ground := Ground.data }, { on := 13, ground := Ground.data }, { on := 8, ground := Ground.guard }], guard := some (8, false) }) (v := undef) rfl (by kernel_rfl) (by kernel_rfl) (by kernel_rfl) (fun _ _ _ h => h) (Or.inr ⟨by rfl, rfl⟩) (by assumption) ?_
        try simp only [Act.put, List.setIfInBounds_toArray, List.set_cons_zero, List.set_cons_succ]
        refine wpAnyH_take (i := 15) (oi := { dst := some 93, op := Op.binOp BinOp.eql 4 (Operand.tmp 87) (Operand.tmp 92) 4, type := 4, pos := "laws.go:105", after := #[{ on := 9, ground := Ground.data }, { on := 14, ground := Ground.data }, { on := 8, ground := Ground.guard }], guard := some (8, false) }) (v := undef) rfl (by kernel_rfl) (by kernel_rfl) (by kernel_rfl) (fun _ _ _ h => h) (Or.inr ⟨by rfl, rfl⟩) (by assumption) ?_
        try simp only [Act.put, List.setIfInBounds_toArray, List.set_cons_zero, List.set_cons_succ]
        refine wpAnyH_take (i := 16) (oi := { dst := some 94, op := Op.pick (Operand.tmp 86) (Operand.const (Value.bool true)) (Operand.tmp 93), type := 4, pos := "laws.go:105", after := #[{ on := 8, ground := Ground.data }, { on := 15, ground := Ground.data }], guard := none }) (v := ?vh16) rfl (by kernel_rfl) (by kernel_rfl) (by kernel_rfl) (fun _ _ _ h => h) (Or.inl ⟨by rfl, ?hyh16⟩) (by assumption) ?resth16
        case hyh16 =>
          intro w hSw
          (try dsimp only at hSw)
          go_simp
          try with_reducible rfl
        try simp only [Act.put, List.setIfInBounds_toArray, List.set_cons_zero, List.set_cons_succ]
        refine wpAnyH_take (i := 17) (oi := { dst := some 4, op := Op.assign (Operand.tmp 94), type := 4, pos := "laws.go:105", after := #[{ on := 16, ground := Ground.data }, { on := 13, ground := Ground.chain }, { on := 0, ground := Ground.phase }, { on := 1, ground := Ground.phase }, { on := 2, ground := Ground.phase }, { on := 3, ground := Ground.phase }, { on := 4, ground := Ground.phase }, { on := 5, ground := Ground.phase }, { on := 6, ground := Ground.phase }, { on := 7, ground := Ground.phase }, { on := 8, ground := Ground.phase }, { on := 9, ground := Ground.phase }, { on := 10, ground := Ground.phase }, { on := 11, ground := Ground.phase }, { on := 12, ground := Ground.phase }, { on := 13, ground := Ground.phase }, { on := 14, ground := Ground.phase }, { on := 15, ground := Ground.phase }, { on := 16, ground := Ground.phase }], guard := none }) (v := ?vh17) rfl (by kernel_rfl) (by kernel_rfl) (by kernel_rfl) (fun _ _ _ h => h) (Or.inl ⟨by rfl, ?hyh17⟩) (by assumption) ?resth17
        case hyh17 =>
          intro w hSw
          (try dsimp only at hSw)
          go_simp
          try with_reducible rfl
        try simp only [Act.put, List.setIfInBounds_toArray, List.set_cons_zero, List.set_cons_succ]
        refine wpAnyH_done (by kernel_rfl) ?_ _
        go_wp2
        go_ret
        exact ⟨rfl, BQB.out⟩
      | true =>
        have hsame := HX.out rfl rfl
        refine wp_region_held_drew (S := (fun w' => wv + 1 ≤ w'.heap.size ∧ w'.cell? ⟨w1.heap.size, 0, none⟩ = some (.string sc) ∧ w'.cell? ⟨w1.heap.size, 1, none⟩ = some (.string ho) ∧ w'.cell? ⟨w1.heap.size, 2, none⟩ = some (.int .i64 po) ∧ w'.cell? ⟨w1.heap.size, 3, none⟩ = some (.int .i64 no) ∧ w'.cell? ⟨w1.heap.size + 1, 0, none⟩ = some (.string sc2) ∧ w'.cell? ⟨w1.heap.size + 1, 1, none⟩ = some (.string ho2) ∧ w'.cell? ⟨w1.heap.size + 1, 2, none⟩ = some (.int .i64 po2) ∧ w'.cell? ⟨w1.heap.size + 1, 3, none⟩ = some (.int .i64 no2))) (by kernel_rfl) ?_ (fun hH0 => ?_)
        · (try dsimp only)
          go_keep
        refine wpAnyH_take (i := 0) (oi := { dst := some 78, op := Op.load 47 (Operand.tmp 5), type := 47, pos := "laws.go:105", after := #[], guard := none }) (v := ?vi0) rfl (by kernel_rfl) (by kernel_rfl) (by kernel_rfl) (fun _ _ _ h => h) (Or.inl ⟨by rfl, ?hyi0⟩) (by assumption) ?resti0
        case hyi0 =>
          intro w hSw
          (try dsimp only at hSw)
          go_simp
          try with_reducible rfl
        try simp only [Act.put, List.setIfInBounds_toArray, List.set_cons_zero, List.set_cons_succ]
        refine wpAnyH_ready (rs := [1]) (by kernel_rfl) (by simp) ?_
        refine AllReadyH.cons (o := { dst := some 79, op := Op.call { callee := Callee.value (Operand.func 37), args := #[Operand.tmp 78], argTypes := #[47] }, type := 4, pos := "laws.go:105", after := #[{ on := 0, ground := Ground.data }], guard := none }) rfl (fun K hK => ?_) AllReadyH.nil
        go_simp
        (go_at_call 37; refine (K8.out _).mono ?_; rintro e wQA ⟨rfl, hbQA⟩; have TQA := Cells.below (L := [(⟨w1.heap.size, 0, none⟩, .string sc), (⟨w1.heap.size, 1, none⟩, .string ho), (⟨w1.heap.size, 2, none⟩, .int .i64 po), (⟨w1.heap.size, 3, none⟩, .int .i64 no), (⟨w1.heap.size + 1, 0, none⟩, .string sc2), (⟨w1.heap.size + 1, 1, none⟩, .string ho2), (⟨w1.heap.size + 1, 2, none⟩, .int .i64 po2), (⟨w1.heap.size + 1, 3, none⟩, .int .i64 no2)]) (by simp only [Cells]; go_keep) hbQA; simp only [Cells] at TQA; obtain ⟨pQA0, pQA1, pQA2, pQA3, pQA4, pQA5, pQA6, pQA7, -⟩ := TQA; have zQA : wv + 1 ≤ wQA.heap.size := Nat.le_trans zI hbQA.size; have BQA : Hid (Below w.heap.size w wQA) := (BI.out.trans (Below.drew (Below.refl _ _))).trans (hbQA.mono (by have := BI.out.size; simpa using this)))
        try (go_wp2_with fail)
        refine hK.out _ _ ?_ (fun hH1 => ?_)
        · (try dsimp only)
          go_keep
        clear hK K hH0
        try simp only [Act.put, List.setIfInBounds_toArray, List.set_cons_zero, List.set_cons_succ]
        refine wpAnyH_take (i := 2) (oi := { dst := some 80, op := Op.unOp UnOp.not 4 (Operand.tmp 79), type := 4, pos := "laws.go:105", after := #[{ on := 1, ground := Ground.data }], guard := none }) (v := ?vi2) rfl (by kernel_rfl) (by kernel_rfl) (by kernel_rfl) (fun _ _ _ h => h) (Or.inl ⟨by rfl, ?hyi2⟩) (by assumption) ?resti2
        case hyi2 =>
          intro w hSw
          (try dsimp only at hSw)
          go_simp
          try with_reducible rfl
        try simp only [Act.put, List.setIfInBounds_toArray, List.set_cons_zero, List.set_cons_succ]
        refine wpAnyH_take (i := 3) (oi := { dst := some 81, op := Op.move (Operand.tmp 80), type := 4, pos := "laws.go:105", after := #[{ on := 2, ground := Ground.data }, { on := 1, ground := Ground.chain }], guard := none }) (v := ?vi3) rfl (by kernel_rfl) (by kernel_rfl) (by kernel_rfl) (fun _ _ _ h => h) (Or.inl ⟨by rfl, ?hyi3⟩) (by assumption) ?resti3
        case hyi3 =>
          intro w hSw
          (try dsimp only at hSw)
          go_simp
          try with_reducible rfl
        try simp only [Act.put, List.setIfInBounds_toArray, List.set_cons_zero, List.set_cons_succ]
        refine wpAnyH_take (i := 4) (oi := { dst := some 82, op := Op.load 47 (Operand.tmp 6), type := 47, pos := "laws.go:105", after := #[{ on := 3, ground := Ground.guard }], guard := some (3, false) }) (v := ?vi4) rfl (by kernel_rfl) (by kernel_rfl) (by kernel_rfl) (fun _ _ _ h => h) (Or.inl ⟨by rfl, ?hyi4⟩) (by assumption) ?resti4
        case hyi4 =>
          intro w hSw
          (try dsimp only at hSw)
          go_simp
          try with_reducible rfl
        try simp only [Act.put, List.setIfInBounds_toArray, List.set_cons_zero, List.set_cons_succ]
        refine wpAnyH_ready (rs := [5]) (by kernel_rfl) (by simp) ?_
        refine AllReadyH.cons (o := { dst := some 83, op := Op.call { callee := Callee.value (Operand.func 37), args := #[Operand.tmp 82], argTypes := #[47] }, type := 4, pos := "laws.go:105", after := #[{ on := 4, ground := Ground.data }, { on := 3, ground := Ground.chain }, { on := 3, ground := Ground.guard }], guard := some (3, false) }) rfl (fun K hK => ?_) AllReadyH.nil
        go_simp
        (go_at_call 37; refine (K9.out _).mono ?_; rintro e wQB ⟨rfl, hbQB⟩; have TQB := Cells.below (L := [(⟨w1.heap.size, 0, none⟩, .string sc), (⟨w1.heap.size, 1, none⟩, .string ho), (⟨w1.heap.size, 2, none⟩, .int .i64 po), (⟨w1.heap.size, 3, none⟩, .int .i64 no), (⟨w1.heap.size + 1, 0, none⟩, .string sc2), (⟨w1.heap.size + 1, 1, none⟩, .string ho2), (⟨w1.heap.size + 1, 2, none⟩, .int .i64 po2), (⟨w1.heap.size + 1, 3, none⟩, .int .i64 no2)]) (by simp only [Cells]; go_keep) hbQB; simp only [Cells] at TQB; obtain ⟨pQB0, pQB1, pQB2, pQB3, pQB4, pQB5, pQB6, pQB7, -⟩ := TQB; have zQB : wv + 1 ≤ wQB.heap.size := Nat.le_trans zQA hbQB.size; have BQB : Hid (Below w.heap.size w wQB) := BQA.out.trans (hbQB.mono BQA.out.size); clear pQA0 pQA1 pQA2 pQA3 pQA4 pQA5 pQA6 pQA7 zQA hbQA)
        try (go_wp2_with fail)
        refine hK.out _ _ ?_ (fun hH2 => ?_)
        · (try dsimp only)
          go_keep
        clear hK K hH1
        try simp only [Act.put, List.setIfInBounds_toArray, List.set_cons_zero, List.set_cons_succ]
        refine wpAnyH_take (i := 6) (oi := { dst := some 84, op := Op.unOp UnOp.not 4 (Operand.tmp 83), type := 4, pos := "laws.go:105", after := #[{ on := 5, ground := Ground.data }, { on := 3, ground := Ground.guard }], guard := some (3, false) }) (v := ?vi6) rfl (by kernel_rfl) (by kernel_rfl) (by kernel_rfl) (fun _ _ _ h => h) (Or.inl ⟨by rfl, ?hyi6⟩) (by assumption) ?resti6
        case hyi6 =>
          intro w hSw
          (try dsimp only at hSw)
          go_simp
          try with_reducible rfl
        try simp only [Act.put, List.setIfInBounds_toArray, List.set_cons_zero, List.set_cons_succ]
        refine wpAnyH_take (i := 7) (oi := { dst := some 85, op := Op.pick (Operand.tmp 81) (Operand.const (Value.bool true)) (Operand.tmp 84), type := 4, pos := "laws.go:105", after := #[{ on := 3, ground := Ground.data }, { on := 6, ground := Ground.data }], guard := none }) (v := ?vi7) rfl (by kernel_rfl) (by kernel_rfl) (by kernel_rfl) (fun _ _ _ h => h) (Or.inl ⟨by rfl, ?hyi7⟩) (by assumption) ?resti7
        case hyi7 =>
          intro w hSw
          (try dsimp only at hSw)
          go_simp
          try with_reducible rfl
        try simp only [Act.put, List.setIfInBounds_toArray, List.set_cons_zero, List.set_cons_succ]
        refine wpAnyH_take (i := 8) (oi := { dst := some 86, op := Op.move (Operand.tmp 85), type := 4, pos := "laws.go:105", after := #[{ on := 7, ground := Ground.data }, { on := 5, ground := Ground.chain }], guard := none }) (v := ?vi8) rfl (by kernel_rfl) (by kernel_rfl) (by kernel_rfl) (fun _ _ _ h => h) (Or.inl ⟨by rfl, ?hyi8⟩) (by assumption) ?resti8
        case hyi8 =>
          intro w hSw
          (try dsimp only at hSw)
          go_simp
          try with_reducible rfl
        try simp only [Act.put, List.setIfInBounds_toArray, List.set_cons_zero, List.set_cons_succ]
        refine wpAnyH_take (i := 9) (oi := { dst := some 87, op := Op.move (Operand.tmp 8), type := 4, pos := "laws.go:105", after := #[{ on := 8, ground := Ground.guard }], guard := some (8, false) }) (v := ?vi9) rfl (by kernel_rfl) (by kernel_rfl) (by kernel_rfl) (fun _ _ _ h => h) (Or.inl ⟨by rfl, ?hyi9⟩) (by assumption) ?resti9
        case hyi9 =>
          intro w hSw
          (try dsimp only at hSw)
          go_simp
          try with_reducible rfl
        try simp only [Act.put, List.setIfInBounds_toArray, List.set_cons_zero, List.set_cons_succ]
        refine wpAnyH_take (i := 10) (oi := { dst := some 88, op := Op.load 47 (Operand.tmp 5), type := 47, pos := "laws.go:105", after := #[{ on := 8, ground := Ground.guard }], guard := some (8, false) }) (v := ?vi10) rfl (by kernel_rfl) (by kernel_rfl) (by kernel_rfl) (fun _ _ _ h => h) (Or.inl ⟨by rfl, ?hyi10⟩) (by assumption) ?resti10
        case hyi10 =>
          intro w hSw
          (try dsimp only at hSw)
          go_simp
          try with_reducible rfl
        try simp only [Act.put, List.setIfInBounds_toArray, List.set_cons_zero, List.set_cons_succ]
        refine wpAnyH_take (i := 12) (oi := { dst := some 90, op := Op.load 47 (Operand.tmp 6), type := 47, pos := "laws.go:105", after := #[{ on := 8, ground := Ground.guard }], guard := some (8, false) }) (v := ?vi12) rfl (by kernel_rfl) (by kernel_rfl) (by kernel_rfl) (fun _ _ _ h => h) (Or.inl ⟨by rfl, ?hyi12⟩) (by assumption) ?resti12
        case hyi12 =>
          intro w hSw
          (try dsimp only at hSw)
          go_simp
          try with_reducible rfl
        try simp only [Act.put, List.setIfInBounds_toArray, List.set_cons_zero, List.set_cons_succ]
        refine wpAnyH_ready (rs := [11]) (by kernel_rfl) (by simp) ?_
        refine AllReadyH.cons (o := { dst := some 89, op := Op.call { callee := Callee.value (Operand.func 34), args := #[Operand.tmp 88], argTypes := #[47] }, type := 9, pos := "laws.go:105", after := #[{ on := 10, ground := Ground.data }, { on := 8, ground := Ground.chain }, { on := 8, ground := Ground.guard }], guard := some (8, false) }) rfl (fun K hK => ?_) AllReadyH.nil
        go_simp
        (go_at_call 34; refine (K3.out _ BQB.out).mono ?_; rintro e wQC ⟨rfl, hbQC⟩; have TQC := Cells.below (L := [(⟨w1.heap.size, 0, none⟩, .string sc), (⟨w1.heap.size, 1, none⟩, .string ho), (⟨w1.heap.size, 2, none⟩, .int .i64 po), (⟨w1.heap.size, 3, none⟩, .int .i64 no), (⟨w1.heap.size + 1, 0, none⟩, .string sc2), (⟨w1.heap.size + 1, 1, none⟩, .string ho2), (⟨w1.heap.size + 1, 2, none⟩, .int .i64 po2), (⟨w1.heap.size + 1, 3, none⟩, .int .i64 no2)]) (by simp only [Cells]; go_keep) hbQC; simp only [Cells] at TQC; obtain ⟨pQC0, pQC1, pQC2, pQC3, pQC4, pQC5, pQC6, pQC7, -⟩ := TQC; have zQC : wv + 1 ≤ wQC.heap.size := Nat.le_trans zQB hbQC.size; have BQC : Hid (Below w.heap.size w wQC) := BQB.out.trans (hbQC.mono BQB.out.size); clear pQB0 pQB1 pQB2 pQB3 pQB4 pQB5 pQB6 pQB7 zQB hbQB)
        try (go_wp2_with fail)
        refine hK.out _ _ ?_ (fun hH3 => ?_)
        · (try dsimp only)
          go_keep
        clear hK K hH2
        try simp only [Act.put, List.setIfInBounds_toArray, List.set_cons_zero, List.set_cons_succ]
        refine wpAnyH_ready (rs := [13]) (by kernel_rfl) (by simp) ?_
        refine AllReadyH.cons (o := { dst := some 91, op := Op.call { callee := Callee.value (Operand.func 34), args := #[Operand.tmp 90], argTypes := #[47] }, type := 9, pos := "laws.go:105", after := #[{ on := 12, ground := Ground.data }, { on := 11, ground := Ground.chain }, { on := 8, ground := Ground.guard }], guard := some (8, false) }) rfl (fun K hK => ?_) AllReadyH.nil
        go_simp
        (go_at_call 34; refine (K5.out _ BQC.out).mono ?_; rintro e wQD ⟨rfl, hbQD⟩; have TQD := Cells.below (L := [(⟨w1.heap.size, 0, none⟩, .string sc), (⟨w1.heap.size, 1, none⟩, .string ho), (⟨w1.heap.size, 2, none⟩, .int .i64 po), (⟨w1.heap.size, 3, none⟩, .int .i64 no), (⟨w1.heap.size + 1, 0, none⟩, .string sc2), (⟨w1.heap.size + 1, 1, none⟩, .string ho2), (⟨w1.heap.size + 1, 2, none⟩, .int .i64 po2), (⟨w1.heap.size + 1, 3, none⟩, .int .i64 no2)]) (by simp only [Cells]; go_keep) hbQD; simp only [Cells] at TQD; obtain ⟨pQD0, pQD1, pQD2, pQD3, pQD4, pQD5, pQD6, pQD7, -⟩ := TQD; have zQD : wv + 1 ≤ wQD.heap.size := Nat.le_trans zQC hbQD.size; have BQD : Hid (Below w.heap.size w wQD) := BQC.out.trans (hbQD.mono BQC.out.size); clear pQC0 pQC1 pQC2 pQC3 pQC4 pQC5 pQC6 pQC7 zQC hbQC)
        try (go_wp2_with fail)
        refine hK.out _ _ ?_ (fun hH4 => ?_)
        · (try dsimp only)
          go_keep
        clear hK K hH3
        try simp only [Act.put, List.setIfInBounds_toArray, List.set_cons_zero, List.set_cons_succ]
        refine wpAnyH_take (i := 14) (oi := { dst := some 92, op := Op.binOp BinOp.eql 9 (Operand.tmp 89) (Operand.tmp 91) 9, type := 4, pos := "laws.go:105", after := #[{ on := 11, ground := Ground.data }, { on := 13, ground := Ground.data }, { on := 8, ground := Ground.guard }], guard := some (8, false) }) (v := ?vi14) rfl (by kernel_rfl) (by kernel_rfl) (by kernel_rfl) (fun _ _ _ h => h) (Or.inl ⟨by rfl, ?hyi14⟩) (by assumption) ?resti14
        case hyi14 =>
          intro w hSw
          (try dsimp only at hSw)
          go_simp
          try with_reducible rfl
        try simp only [Act.put, List.setIfInBounds_toArray, List.set_cons_zero, List.set_cons_succ]
        refine wpAnyH_take (i := 15) (oi := { dst := some 93, op := Op.binOp BinOp.eql 4 (Operand.tmp 87) (Operand.tmp 92) 4, type := 4, pos := "laws.go:105", after := #[{ on := 9, ground := Ground.data }, { on := 14, ground := Ground.data }, { on := 8, ground := Ground.guard }], guard := some (8, false) }) (v := ?vi15) rfl (by kernel_rfl) (by kernel_rfl) (by kernel_rfl) (fun _ _ _ h => h) (Or.inl ⟨by rfl, ?hyi15⟩) (by assumption) ?resti15
        case hyi15 =>
          intro w hSw
          (try dsimp only at hSw)
          go_simp
          try with_reducible rfl
        try simp only [Act.put, List.setIfInBounds_toArray, List.set_cons_zero, List.set_cons_succ]
        refine wpAnyH_take (i := 16) (oi := { dst := some 94, op := Op.pick (Operand.tmp 86) (Operand.const (Value.bool true)) (Operand.tmp 93), type := 4, pos := "laws.go:105", after := #[{ on := 8, ground := Ground.data }, { on := 15, ground := Ground.data }], guard := none }) (v := ?vi16) rfl (by kernel_rfl) (by kernel_rfl) (by kernel_rfl) (fun _ _ _ h => h) (Or.inl ⟨by rfl, ?hyi16⟩) (by assumption) ?resti16
        case hyi16 =>
          intro w hSw
          (try dsimp only at hSw)
          go_simp
          try with_reducible rfl
        try simp only [Act.put, List.setIfInBounds_toArray, List.set_cons_zero, List.set_cons_succ]
        refine wpAnyH_take (i := 17) (oi := { dst := some 4, op := Op.assign (Operand.tmp 94), type := 4, pos := "laws.go:105", after := #[{ on := 16, ground := Ground.data }, { on := 13, ground := Ground.chain }, { on := 0, ground := Ground.phase }, { on := 1, ground := Ground.phase }, { on := 2, ground := Ground.phase }, { on := 3, ground := Ground.phase }, { on := 4, ground := Ground.phase }, { on := 5, ground := Ground.phase }, { on := 6, ground := Ground.phase }, { on := 7, ground := Ground.phase }, { on := 8, ground := Ground.phase }, { on := 9, ground := Ground.phase }, { on := 10, ground := Ground.phase }, { on := 11, ground := Ground.phase }, { on := 12, ground := Ground.phase }, { on := 13, ground := Ground.phase }, { on := 14, ground := Ground.phase }, { on := 15, ground := Ground.phase }, { on := 16, ground := Ground.phase }], guard := none }) (v := ?vi17) rfl (by kernel_rfl) (by kernel_rfl) (by kernel_rfl) (fun _ _ _ h => h) (Or.inl ⟨by rfl, ?hyi17⟩) (by assumption) ?resti17
        case hyi17 =>
          intro w hSw
          (try dsimp only at hSw)
          go_simp
          try with_reducible rfl
        try simp only [Act.put, List.setIfInBounds_toArray, List.set_cons_zero, List.set_cons_succ]
        refine wpAnyH_done (by kernel_rfl) ?_ _
        go_wp2
        go_ret
        exact ⟨rfl, BQD.out⟩
end Go.Proofs.YtknjkakokcblnaaDoor
