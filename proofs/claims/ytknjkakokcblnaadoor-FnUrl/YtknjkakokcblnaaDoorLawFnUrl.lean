/- The law FnUrl, walked, over what the program's functions answer. -/
import Derived.Test.YtknjkakokcblnaaDoorLawUrlRead
import Derived.Deep.RegionHeld3
import Derived.Test.YtknjkakokcblnaaDoorLawLabelsOf
import Derived.Test.YtknjkakokcblnaaDoorUrlBack
import Derived.Test.YtknjkakokcblnaaDoorDrawUrl3
import Derived.Test.YtknjkakokcblnaaDoorLwTexts
namespace Go.Proofs.YtknjkakokcblnaaDoor
open Go.RowKit

/-- a url's cells in block b, what is read of a text in block c -/
def N9 (W : World) (n b c : Nat) (sc ho pa : ByteArray) (po : Int) (xs xh xp : ByteArray) (xo xc : Int) : Prop :=
  n ≤ W.heap.size ∧ (W.cell? ⟨b, 0, none⟩ = some (.string sc) ∧ W.cell? ⟨b, 1, none⟩ = some (.string ho) ∧ W.cell? ⟨b, 2, none⟩ = some (.int .i64 po) ∧ W.cell? ⟨b, 3, none⟩ = some (.string pa)) ∧
  (W.cell? ⟨c, 0, none⟩ = some (.string xs) ∧ W.cell? ⟨c, 1, none⟩ = some (.string xh) ∧ W.cell? ⟨c, 2, none⟩ = some (.int .i64 xo) ∧ W.cell? ⟨c, 3, none⟩ = some (.string xp) ∧ W.cell? ⟨c, 4, none⟩ = some (.int .i64 xc))
theorem N9.below {W W' : World} {n b c : Nat} {sc ho pa : ByteArray} {po : Int} {xs xh xp : ByteArray} {xo xc : Int} (h : N9 W n b c sc ho pa po xs xh xp xo xc) (hb : Below W.heap.size W W') : N9 W' n b c sc ho pa po xs xh xp xo xc := by
  obtain ⟨hz, ⟨a0, a1, a2, a3⟩, b0, b1, b2, b3, b4⟩ := h
  have k := @Below.cell _ _ _ hb
  have hs := hb.size
  exact ⟨by omega, ⟨(k (cell_lt a0)).trans a0, (k (cell_lt a1)).trans a1, (k (cell_lt a2)).trans a2, (k (cell_lt a3)).trans a3⟩,
    (k (cell_lt b0)).trans b0, (k (cell_lt b1)).trans b1, (k (cell_lt b2)).trans b2, (k (cell_lt b3)).trans b3, (k (cell_lt b4)).trans b4⟩
theorem read_two (v : ByteArray) (hv : v.size ≤ 1000) : (∃ xs xh xp xo, readV v = urlOut xs xh xp xo 0 ∧ urlT xs xh xp xo = v ∧ xs.size + xh.size + xp.size ≤ 1048576) ∨ ∃ xs xh xp xo xc, readV v = urlOut xs xh xp xo xc ∧ ¬ xc = 0 := by
  unfold readV
  rw [if_neg (by omega)]
  by_cases h : readOk v = true
  · rw [if_pos h]
    refine .inl ⟨_, _, _, _, rfl, text_of_readOk h, ?_⟩
    have ht := text_of_readOk h
    by_cases hu : urlB (readU v).1 (readU v).2.1 (readU v).2.2.2 (readU v).2.2.1 = true
    · obtain ⟨p1, p2, _, _, p5⟩ := urlB_parts hu
      omega
    · rw [urlT, if_neg hu] at ht
      unfold readOk at h
      rw [Bool.and_eq_true, ← ht] at h
      exact absurd h.1 (by rw [ByteArray.toList_eq]; decide)
  · rw [if_neg h]
    exact .inr ⟨_, _, _, _, _, rfl, by decide⟩

set_option maxRecDepth 10000 in
set_option maxHeartbeats 8000000 in
theorem lawFnUrl_of (w : World)
    (hT : ∀ (sc ho pa : ByteArray) (po : Int) (W : World), Below w.heap.size w W → sc.size + ho.size + pa.size ≤ 1048576 → Calls Tryd.prog 15 #[urlV sc ho pa po] W fun e w' => e = .returned (.string (urlT sc ho pa po)) ∧ Below W.heap.size W w')
    (hR : ∀ (sc ho pa : ByteArray) (po : Int) (W : World), Below w.heap.size w W → sc.size + ho.size + pa.size ≤ 1048576 → Calls Tryd.prog 20 #[urlV sc ho pa po] W fun e w' => e = .returned (.bool (urlB sc ho pa po)) ∧ Below W.heap.size W w')
    (hD : ∀ (t : ByteArray) (W : World), Below w.heap.size w W → t.size ≤ 1048576 → Calls Tryd.prog 17 #[.string t] W fun e w' => e = .returned (readV t) ∧ Below W.heap.size W w')
    (hL : ∀ (s : ByteArray) (W : World), Below w.heap.size w W → s.size ≤ 1048576 → Calls Tryd.prog 24 #[.string s] W fun e w' => ∃ v, e = .returned v ∧ SliceS w' W.heap.size v (labelsL s).length (atL (labelsL s)) ∧ Below W.heap.size W w')
    (hH : ∀ (s : ByteArray) (W : World), Below w.heap.size w W → s.size ≤ 1048576 → Calls Tryd.prog 26 #[.string s] W fun e w' => e = .returned (.bool (hostB s)) ∧ Below W.heap.size W w')
    (a : Option Addr) (len cap : Nat) (a' : Option Addr) (len' cap' : Nat) (hr : len ≤ 1048576 → CodeRow w a len) (hr' : len' ≤ 1048576 → CodeRow w a' len') :
    Calls Tryd.prog 4 #[.slice a len cap, .slice a' len' cap'] w fun e w' => e = .returned (.bool true) ∧ Below w.heap.size w w' := by
  by_cases h1 : 1048576 < len
  · clear hT hR hD hL hH hr hr'
    go_enter Tryd.func4, Tryd.ntmps4
    go_wp2
    go_ret
    exact ⟨rfl, Below.refl _ _⟩
  have q1 : decide (1048576 < (len : Int)) = false := by rw [decide_eq_false_iff_not]; omega
  by_cases h2 : 1048576 < len'
  · clear hT hR hD hL hH hr hr'
    go_enter Tryd.func4, Tryd.ntmps4
    go_wp2
    go_ret
    exact ⟨rfl, Below.refl _ _⟩
  have q2 : decide (1048576 < (len' : Int)) = false := by rw [decide_eq_false_iff_not]; omega
  have R1 : Hid (CodeRow w a len) := hr (by omega)
  have R2 : Hid (CodeRow w a' len') := hr' (by omega)
  have HT : Hid (∀ (sc ho pa : ByteArray) (po : Int) (W : World), Below w.heap.size w W → sc.size + ho.size + pa.size ≤ 1048576 → Calls Tryd.prog 15 #[urlV sc ho pa po] W fun e w' => e = .returned (.string (urlT sc ho pa po)) ∧ Below W.heap.size W w') := hT
  have HR : Hid (∀ (sc ho pa : ByteArray) (po : Int) (W : World), Below w.heap.size w W → sc.size + ho.size + pa.size ≤ 1048576 → Calls Tryd.prog 20 #[urlV sc ho pa po] W fun e w' => e = .returned (.bool (urlB sc ho pa po)) ∧ Below W.heap.size W w') := hR
  have HD : Hid (∀ (t : ByteArray) (W : World), Below w.heap.size w W → t.size ≤ 1048576 → Calls Tryd.prog 17 #[.string t] W fun e w' => e = .returned (readV t) ∧ Below W.heap.size W w') := hD
  have HL : Hid (∀ (s : ByteArray) (W : World), Below w.heap.size w W → s.size ≤ 1048576 → Calls Tryd.prog 24 #[.string s] W fun e w' => ∃ v, e = .returned v ∧ SliceS w' W.heap.size v (labelsL s).length (atL (labelsL s)) ∧ Below W.heap.size W w') := hL
  have HH : Hid (∀ (s : ByteArray) (W : World), Below w.heap.size w W → s.size ≤ 1048576 → Calls Tryd.prog 26 #[.string s] W fun e w' => e = .returned (.bool (hostB s)) ∧ Below W.heap.size W w') := hH
  clear hT hR hD hL hH hr hr'
  have l1 : len ≤ 1048576 := by omega
  have l2 : len' ≤ 1048576 := by omega
  go_enter Tryd.func4, Tryd.ntmps4
  go_wp2_with fail
  refine (drawUrlText_any a len cap _ R1.out l1).mono ?_
  rintro e w1 ⟨⟨sc, ho, pa, po, rfl, hsc, hho, hpa⟩, hb1⟩
  have z1 := hb1.size
  unfold urlV
  go_wp2_with fail
  refine (HT.out sc ho pa po _ (hb1.alloc z1 _) (by omega)).mono ?_
  rintro e w2 ⟨rfl, hb2⟩
  have U2 : Hid (U4 w2 w1.heap.size (.string sc) (.string ho) (.int .i64 po) (.string pa)) := by
    obtain ⟨hb, ⟨c0, c1, c2, c3⟩, hf⟩ := U4.made w1 (.string sc) (.string ho) (.int .i64 po) (.string pa) 35
    exact ⟨Nat.lt_of_lt_of_le hb hb2.size, ⟨by rw [(bcell hb2).1 _ _ hb]; exact c0, by rw [(bcell hb2).1 _ _ hb]; exact c1, by rw [(bcell hb2).1 _ _ hb]; exact c2, by rw [(bcell hb2).1 _ _ hb]; exact c3⟩, fun o => by rw [(bcell hb2).2 _ _ hb]; exact hf o⟩
  have B2 : Hid (Below w.heap.size w w2) := (hb1.alloc z1 _).trans (hb2.mono (by simp; omega))
  have z2 : w1.heap.size < w2.heap.size := U2.out.1
  clear hb1 hb2
  go_wp2_with fail
  refine (drawUrlRead_any a' len' cap' _ (R2.out.below B2.out) l2).mono ?_
  rintro e w3 ⟨⟨v, rfl, hv⟩, hb3⟩
  have B3 : Hid (Below w.heap.size w w3) := B2.out.trans (hb3.mono B2.out.size)
  go_wp2_with fail
  refine (HD.out v _ B3.out (by omega)).mono ?_
  rintro e w4 ⟨rfl, hb4⟩
  have z3 := hb3.size
  have z4 := hb4.size
  have C4 : ∀ xs xh xp xo xc, Hid (∀ (W : World) (T : TypeId), Below (w4.alloc (.cells #[.string xs, .string xh, .int .i64 xo, .string xp, .int .i64 xc] T)).heap.size (w4.alloc (.cells #[.string xs, .string xh, .int .i64 xo, .string xp, .int .i64 xc] T)) W → N9 W (w4.heap.size + 1) w1.heap.size w4.heap.size sc ho pa po xs xh xp xo xc) := by
    intro xs xh xp xo xc W T hb
    obtain ⟨hz, ⟨d0, d1, d2, d3⟩, _⟩ := U2.out
    have k3 := @Below.cell _ _ _ hb3
    have k4 := @Below.cell _ _ _ hb4
    have e0 := (k4 (cell_lt ((k3 (cell_lt d0)).trans d0))).trans ((k3 (cell_lt d0)).trans d0)
    have e1 := (k4 (cell_lt ((k3 (cell_lt d1)).trans d1))).trans ((k3 (cell_lt d1)).trans d1)
    have e2 := (k4 (cell_lt ((k3 (cell_lt d2)).trans d2))).trans ((k3 (cell_lt d2)).trans d2)
    have e3 := (k4 (cell_lt ((k3 (cell_lt d3)).trans d3))).trans ((k3 (cell_lt d3)).trans d3)
    have m : N9 (w4.alloc (.cells #[.string xs, .string xh, .int .i64 xo, .string xp, .int .i64 xc] T)) (w4.heap.size + 1) w1.heap.size w4.heap.size sc ho pa po xs xh xp xo xc := by
      refine ⟨by simp, ⟨?_, ?_, ?_, ?_⟩, by simp, by simp, by simp, by simp, by simp⟩
      · rw [World.cell?_alloc_lt _ _ _ (cell_lt e0)]; exact e0
      · rw [World.cell?_alloc_lt _ _ _ (cell_lt e1)]; exact e1
      · rw [World.cell?_alloc_lt _ _ _ (cell_lt e2)]; exact e2
      · rw [World.cell?_alloc_lt _ _ _ (cell_lt e3)]; exact e3
    exact m.below hb
  have B4 : Hid (Below w.heap.size w w4) := (B2.out.trans (hb3.mono (by omega))).trans (hb4.mono (by omega))
  clear hb3 hb4 U2
  rcases read_two v hv with ⟨xs, xh, xp, xo, ev, HX, hxs⟩ | ⟨xs, xh, xp, xo, xc, ev, hxc⟩
  case inl =>
    rw [ev]
    unfold urlOut at ev ⊢
    go_wp2_with fail
    refine (drawLabelsOf_any a' len' cap' _ (R2.out.below (B4.out.alloc (by omega) _)) l2).mono ?_
    rintro e w5 ⟨⟨h, rfl, hh⟩, hb5⟩
    have M5 := (C4 xs xh xp xo 0).out w5 _ hb5
    have B5 : Hid (Below w.heap.size w w5) := (B4.out.alloc (by omega) _).trans (hb5.mono (by simp; omega))
    clear hb5 C4 B4 B2 B3 R1 R2
    go_wp2_with fail
    by_cases hu : urlB sc ho pa po = true
    case pos =>
      have K1 : Hid (∀ W, Calls Tryd.prog 19 #[.agg #[.string sc, .string ho, .int .i64 po, .string pa]] W fun e w' => e = .returned (.string (urlT sc ho pa po)) ∧ Below W.heap.size W w') := fun W => specUrlText_any sc ho pa po W
      have K2 : Hid (∀ W, Below w.heap.size w W → Calls Tryd.prog 20 #[.agg #[.string sc, .string ho, .int .i64 po, .string pa]] W fun e w' => e = .returned (.bool (urlB sc ho pa po)) ∧ Below W.heap.size W w') := fun W hb => HR.out sc ho pa po W hb (by omega)
      have K3 : Hid (∀ W, Calls Tryd.prog 21 #[.agg #[.string sc, .string ho, .int .i64 po, .string pa]] W fun e w' => e = .returned (.bool (urlB sc ho pa po)) ∧ Below W.heap.size W w') := fun W => specUrlRight_any sc ho pa po W
      have K5 : Hid (∀ W, Calls Tryd.prog 22 #[.string v] W fun e w' => e = .returned (.agg #[.string xs, .string xh, .int .i64 xo, .string xp, .int .i64 0]) ∧ Below W.heap.size W w') := fun W => by have := specUrlRead_any v W; rw [ev] at this; exact this
      have K7 : Hid (∀ W, Below w.heap.size w W → Calls Tryd.prog 24 #[.string h] W fun e w' => ∃ v, e = .returned v ∧ SliceS w' W.heap.size v (labelsL h).length (atL (labelsL h)) ∧ Below W.heap.size W w') := fun W hb => HL.out h W hb (by omega)
      have K8 : Hid (∀ W, Calls Tryd.prog 25 #[.string h] W fun e w' => ∃ v, e = .returned v ∧ SliceS w' W.heap.size v (labelsL h).length (atL (labelsL h)) ∧ Below W.heap.size W w') := fun W => specLabelsOf_any h W
      have K10 : Hid (∀ W, Below w.heap.size w W → Calls Tryd.prog 26 #[.string h] W fun e w' => e = .returned (.bool (hostB h)) ∧ Below W.heap.size W w') := fun W hb => HH.out h W hb (by omega)
      have K11 : Hid (∀ W, Calls Tryd.prog 27 #[.string h] W fun e w' => e = .returned (.bool (hostB h)) ∧ Below W.heap.size W w') := fun W => specHost_any h W
      have hn : (labelsL h).length ≤ 1048576 := by have := labelsL_len h; omega
      have K6 : Hid (∀ W, Below w.heap.size w W → Calls Tryd.prog 15 #[.agg #[.string xs, .string xh, .int .i64 xo, .string xp]] W fun e w' => e = .returned (.string v) ∧ Below W.heap.size W w') := fun W hb => by have := HT.out xs xh xp xo W hb hxs; rw [HX] at this; exact this
      have hemp : (urlT sc ho pa po).toList.isEmpty = false := by
        have := readOk_back hu
        unfold readOk at this
        rw [Bool.and_eq_true] at this
        simpa using this.1
      have hts : (urlT sc ho pa po).size ≤ 8000 := by
        obtain ⟨p1, p2, p3, p4, p5⟩ := urlB_parts hu
        have := placeT_size p1 p2 p3 p4
        rw [urlT, if_pos hu, ByteArray.size_append]; omega
      have K4 : Hid (∀ W, Below w.heap.size w W → Calls Tryd.prog 17 #[.string (urlT sc ho pa po)] W fun e w' => e = .returned (.agg #[.string sc, .string ho, .int .i64 po, .string pa, .int .i64 0]) ∧ Below W.heap.size W w') := fun W hb => by
        have := HD.out (urlT sc ho pa po) W hb (by omega)
        rw [readV, if_neg (by omega), if_pos (readOk_back hu), read_back sc ho pa po hu] at this
        exact this
      rw [hu] at K2 K3
      clear HT HR HD HL HH hu hts ev
      generalize urlT sc ho pa po = t at *
      generalize (labelsL h).length = n at *
      generalize atL (labelsL h) = f at *
      generalize hostB h = hbool at *
      obtain ⟨z5, ⟨p0, p1, p2, p3⟩, r0, r1, r2, r3, r4⟩ := M5
      refine wp_region_held_drew (S := (fun w' => w4.heap.size + 1 ≤ w'.heap.size ∧ (w'.cell? ⟨w1.heap.size, 0, none⟩ = some (.string sc) ∧ w'.cell? ⟨w1.heap.size, 1, none⟩ = some (.string ho) ∧ w'.cell? ⟨w1.heap.size, 2, none⟩ = some (.int .i64 po) ∧ w'.cell? ⟨w1.heap.size, 3, none⟩ = some (.string pa)) ∧ (w'.cell? ⟨w4.heap.size, 0, none⟩ = some (.string xs) ∧ w'.cell? ⟨w4.heap.size, 1, none⟩ = some (.string xh) ∧ w'.cell? ⟨w4.heap.size, 2, none⟩ = some (.int .i64 xo) ∧ w'.cell? ⟨w4.heap.size, 3, none⟩ = some (.string xp) ∧ w'.cell? ⟨w4.heap.size, 4, none⟩ = some (.int .i64 0)))) (by kernel_rfl) ?_ (fun hH0 => ?_)
      · (try dsimp only)
        go_keep
      refine wpAnyH_take (i := 0) (oi := { dst := some 28, op := Op.move (Operand.tmp 6), type := 9, pos := "laws.go:85", after := #[], guard := none }) (v := ?va0) rfl (by kernel_rfl) (by kernel_rfl) (by kernel_rfl) (fun _ _ _ h => h) (Or.inl ⟨by rfl, ?hya0⟩) (by assumption) ?resta0
      case hya0 =>
        intro w hSw
        (try dsimp only at hSw)
        go_simp
        try with_reducible rfl
      try simp only [Act.put, List.setIfInBounds_toArray, List.set_cons_zero, List.set_cons_succ]
      refine wpAnyH_take (i := 1) (oi := { dst := some 29, op := Op.load 35 (Operand.tmp 5), type := 35, pos := "laws.go:85", after := #[], guard := none }) (v := ?va1) rfl (by kernel_rfl) (by kernel_rfl) (by kernel_rfl) (fun _ _ _ h => h) (Or.inl ⟨by rfl, ?hya1⟩) (by assumption) ?resta1
      case hya1 =>
        intro w hSw
        (try dsimp only at hSw)
        go_simp
        try with_reducible rfl
      try simp only [Act.put, List.setIfInBounds_toArray, List.set_cons_zero, List.set_cons_succ]
      refine wpAnyH_ready (rs := [2]) (by kernel_rfl) (by simp) ?_
      refine AllReadyH.cons (o := { dst := some 30, op := Op.call { callee := Callee.value (Operand.func 19), args := #[Operand.tmp 29], argTypes := #[35] }, type := 9, pos := "laws.go:85", after := #[{ on := 1, ground := Ground.data }], guard := none }) rfl (fun K hK => ?_) AllReadyH.nil
      go_simp
      (go_at_call 19; refine (K1.out _).mono ?_; rintro e wA ⟨rfl, hbA⟩; have TA := N9.below (n := w4.heap.size + 1) (b := w1.heap.size) (c := w4.heap.size) (sc := sc) (ho := ho) (pa := pa) (po := po) (xs := xs) (xh := xh) (xp := xp) (xo := xo) (xc := 0) (by unfold N9; go_keep) hbA; obtain ⟨zA, ⟨p0A, p1A, p2A, p3A⟩, q0A, q1A, q2A, q3A, q4A⟩ := TA; have BA : Hid (Below w.heap.size w wA) := (B5.out.trans (Below.drew (Below.refl _ _))).trans (hbA.mono (by simp; omega)))
      try (go_wp2_with fail)
      refine hK.out _ _ ?_ (fun hH1 => ?_)
      · (try dsimp only)
        go_keep
      clear hK K hH0
      try simp only [Act.put, List.setIfInBounds_toArray, List.set_cons_zero, List.set_cons_succ]
      refine wpAnyH_take (i := 3) (oi := { dst := some 31, op := Op.binOp BinOp.eql 9 (Operand.tmp 28) (Operand.tmp 30) 9, type := 4, pos := "laws.go:85", after := #[{ on := 0, ground := Ground.data }, { on := 2, ground := Ground.data }], guard := none }) (v := ?va3) rfl (by kernel_rfl) (by kernel_rfl) (by kernel_rfl) (fun _ _ _ h => h) (Or.inl ⟨by rfl, ?hya3⟩) (by assumption) ?resta3
      case hya3 =>
        intro w hSw
        (try dsimp only at hSw)
        go_simp
        try with_reducible rfl
      try simp only [Act.put, List.setIfInBounds_toArray, List.set_cons_zero, List.set_cons_succ]
      refine wpAnyH_take (i := 4) (oi := { dst := some 32, op := Op.move (Operand.tmp 31), type := 4, pos := "laws.go:85", after := #[{ on := 3, ground := Ground.data }, { on := 2, ground := Ground.chain }], guard := none }) (v := ?va4) rfl (by kernel_rfl) (by kernel_rfl) (by kernel_rfl) (fun _ _ _ h => h) (Or.inl ⟨by rfl, ?hya4⟩) (by assumption) ?resta4
      case hya4 =>
        intro w hSw
        (try dsimp only at hSw)
        go_simp
        try with_reducible rfl
      try simp only [Act.put, List.setIfInBounds_toArray, List.set_cons_zero, List.set_cons_succ]
      refine wpAnyH_take (i := 5) (oi := { dst := some 33, op := Op.load 35 (Operand.tmp 5), type := 35, pos := "laws.go:85", after := #[{ on := 4, ground := Ground.guard }], guard := some (4, true) }) (v := ?va5) rfl (by kernel_rfl) (by kernel_rfl) (by kernel_rfl) (fun _ _ _ h => h) (Or.inl ⟨by rfl, ?hya5⟩) (by assumption) ?resta5
      case hya5 =>
        intro w hSw
        (try dsimp only at hSw)
        go_simp
        try with_reducible rfl
      try simp only [Act.put, List.setIfInBounds_toArray, List.set_cons_zero, List.set_cons_succ]
      refine wpAnyH_take (i := 7) (oi := { dst := some 35, op := Op.load 35 (Operand.tmp 5), type := 35, pos := "laws.go:85", after := #[{ on := 4, ground := Ground.guard }], guard := some (4, true) }) (v := ?va7) rfl (by kernel_rfl) (by kernel_rfl) (by kernel_rfl) (fun _ _ _ h => h) (Or.inl ⟨by rfl, ?hya7⟩) (by assumption) ?resta7
      case hya7 =>
        intro w hSw
        (try dsimp only at hSw)
        go_simp
        try with_reducible rfl
      try simp only [Act.put, List.setIfInBounds_toArray, List.set_cons_zero, List.set_cons_succ]
      refine wpAnyH_ready (rs := [6]) (by kernel_rfl) (by simp) ?_
      refine AllReadyH.cons (o := { dst := some 34, op := Op.call { callee := Callee.value (Operand.func 20), args := #[Operand.tmp 33], argTypes := #[35] }, type := 4, pos := "laws.go:85", after := #[{ on := 5, ground := Ground.data }, { on := 4, ground := Ground.chain }, { on := 4, ground := Ground.guard }], guard := some (4, true) }) rfl (fun K hK => ?_) AllReadyH.nil
      go_simp
      (go_at_call 20; refine (K2.out _ BA.out).mono ?_; rintro e wB ⟨rfl, hbB⟩; have TB := N9.below (n := w4.heap.size + 1) (b := w1.heap.size) (c := w4.heap.size) (sc := sc) (ho := ho) (pa := pa) (po := po) (xs := xs) (xh := xh) (xp := xp) (xo := xo) (xc := 0) (by unfold N9; go_keep) hbB; obtain ⟨zB, ⟨p0B, p1B, p2B, p3B⟩, q0B, q1B, q2B, q3B, q4B⟩ := TB; have BB : Hid (Below w.heap.size w wB) := BA.out.trans (hbB.mono BA.out.size))
      try (go_wp2_with fail)
      refine hK.out _ _ ?_ (fun hH2 => ?_)
      · (try dsimp only)
        go_keep
      clear hK K hH1
      try simp only [Act.put, List.setIfInBounds_toArray, List.set_cons_zero, List.set_cons_succ]
      refine wpAnyH_ready (rs := [8]) (by kernel_rfl) (by simp) ?_
      refine AllReadyH.cons (o := { dst := some 36, op := Op.call { callee := Callee.value (Operand.func 21), args := #[Operand.tmp 35], argTypes := #[35] }, type := 4, pos := "laws.go:85", after := #[{ on := 7, ground := Ground.data }, { on := 6, ground := Ground.chain }, { on := 4, ground := Ground.guard }], guard := some (4, true) }) rfl (fun K hK => ?_) AllReadyH.nil
      go_simp
      (go_at_call 21; refine (K3.out _).mono ?_; rintro e wC ⟨rfl, hbC⟩; have TC := N9.below (n := w4.heap.size + 1) (b := w1.heap.size) (c := w4.heap.size) (sc := sc) (ho := ho) (pa := pa) (po := po) (xs := xs) (xh := xh) (xp := xp) (xo := xo) (xc := 0) (by unfold N9; go_keep) hbC; obtain ⟨zC, ⟨p0C, p1C, p2C, p3C⟩, q0C, q1C, q2C, q3C, q4C⟩ := TC; have BC : Hid (Below w.heap.size w wC) := BB.out.trans (hbC.mono BB.out.size))
      try (go_wp2_with fail)
      refine hK.out _ _ ?_ (fun hH3 => ?_)
      · (try dsimp only)
        go_keep
      clear hK K hH2
      try simp only [Act.put, List.setIfInBounds_toArray, List.set_cons_zero, List.set_cons_succ]
      refine wpAnyH_take (i := 9) (oi := { dst := some 37, op := Op.binOp BinOp.eql 4 (Operand.tmp 34) (Operand.tmp 36) 4, type := 4, pos := "laws.go:85", after := #[{ on := 6, ground := Ground.data }, { on := 8, ground := Ground.data }, { on := 4, ground := Ground.guard }], guard := some (4, true) }) (v := ?va9) rfl (by kernel_rfl) (by kernel_rfl) (by kernel_rfl) (fun _ _ _ h => h) (Or.inl ⟨by rfl, ?hya9⟩) (by assumption) ?resta9
      case hya9 =>
        intro w hSw
        (try dsimp only at hSw)
        go_simp
        try with_reducible rfl
      try simp only [Act.put, List.setIfInBounds_toArray, List.set_cons_zero, List.set_cons_succ]
      refine wpAnyH_take (i := 10) (oi := { dst := some 38, op := Op.pick (Operand.tmp 32) (Operand.tmp 37) (Operand.const (Value.bool false)), type := 4, pos := "laws.go:85", after := #[{ on := 4, ground := Ground.data }, { on := 9, ground := Ground.data }], guard := none }) (v := ?va10) rfl (by kernel_rfl) (by kernel_rfl) (by kernel_rfl) (fun _ _ _ h => h) (Or.inl ⟨by rfl, ?hya10⟩) (by assumption) ?resta10
      case hya10 =>
        intro w hSw
        (try dsimp only at hSw)
        go_simp
        try with_reducible rfl
      try simp only [Act.put, List.setIfInBounds_toArray, List.set_cons_zero, List.set_cons_succ]
      refine wpAnyH_take (i := 11) (oi := { dst := some 39, op := Op.move (Operand.tmp 38), type := 4, pos := "laws.go:85", after := #[{ on := 10, ground := Ground.data }, { on := 8, ground := Ground.chain }], guard := none }) (v := ?va11) rfl (by kernel_rfl) (by kernel_rfl) (by kernel_rfl) (fun _ _ _ h => h) (Or.inl ⟨by rfl, ?hya11⟩) (by assumption) ?resta11
      case hya11 =>
        intro w hSw
        (try dsimp only at hSw)
        go_simp
        try with_reducible rfl
      try simp only [Act.put, List.setIfInBounds_toArray, List.set_cons_zero, List.set_cons_succ]
      refine wpAnyH_take (i := 12) (oi := { dst := some 40, op := Op.move (Operand.tmp 6), type := 9, pos := "laws.go:85", after := #[{ on := 11, ground := Ground.guard }], guard := some (11, true) }) (v := ?va12) rfl (by kernel_rfl) (by kernel_rfl) (by kernel_rfl) (fun _ _ _ h => h) (Or.inl ⟨by rfl, ?hya12⟩) (by assumption) ?resta12
      case hya12 =>
        intro w hSw
        (try dsimp only at hSw)
        go_simp
        try with_reducible rfl
      try simp only [Act.put, List.setIfInBounds_toArray, List.set_cons_zero, List.set_cons_succ]
      refine wpAnyH_take (i := 13) (oi := { dst := some 41, op := Op.binOp BinOp.eql 9 (Operand.tmp 40) (Operand.const (Value.string { data := #[] })) 9, type := 4, pos := "laws.go:85", after := #[{ on := 12, ground := Ground.data }, { on := 11, ground := Ground.guard }], guard := some (11, true) }) (v := ?va13) rfl (by kernel_rfl) (by kernel_rfl) (by kernel_rfl) (fun _ _ _ h => h) (Or.inl ⟨by rfl, ?hya13⟩) (by assumption) ?resta13
      case hya13 =>
        intro w hSw
        (try dsimp only at hSw)
        go_simp
        try with_reducible rfl
      try simp only [Act.put, List.setIfInBounds_toArray, List.set_cons_zero, List.set_cons_succ]
      refine wpAnyH_take (i := 14) (oi := { dst := some 42, op := Op.move (Operand.tmp 41), type := 4, pos := "laws.go:85", after := #[{ on := 13, ground := Ground.data }, { on := 11, ground := Ground.chain }, { on := 11, ground := Ground.guard }], guard := some (11, true) }) (v := ?va14) rfl (by kernel_rfl) (by kernel_rfl) (by kernel_rfl) (fun _ _ _ h => h) (Or.inl ⟨by rfl, ?hya14⟩) (by assumption) ?resta14
      case hya14 =>
        intro w hSw
        (try dsimp only at hSw)
        go_simp
        try with_reducible rfl
      try simp only [Act.put, List.setIfInBounds_toArray, List.set_cons_zero, List.set_cons_succ]
      refine wpAnyH_take (i := 15) (oi := { dst := some 43, op := Op.move (Operand.tmp 6), type := 9, pos := "laws.go:85", after := #[{ on := 14, ground := Ground.guard }], guard := some (14, false) }) (v := ?va15) rfl (by kernel_rfl) (by kernel_rfl) (by kernel_rfl) (fun _ _ _ h => h) (Or.inl ⟨by rfl, ?hya15⟩) (by assumption) ?resta15
      case hya15 =>
        intro w hSw
        (try dsimp only at hSw)
        go_simp
        try with_reducible rfl
      try simp only [Act.put, List.setIfInBounds_toArray, List.set_cons_zero, List.set_cons_succ]
      refine wpAnyH_take (i := 17) (oi := { dst := some 45, op := Op.load 35 (Operand.tmp 5), type := 35, pos := "laws.go:85", after := #[{ on := 14, ground := Ground.guard }], guard := some (14, false) }) (v := ?va17) rfl (by kernel_rfl) (by kernel_rfl) (by kernel_rfl) (fun _ _ _ h => h) (Or.inl ⟨by rfl, ?hya17⟩) (by assumption) ?resta17
      case hya17 =>
        intro w hSw
        (try dsimp only at hSw)
        go_simp
        try with_reducible rfl
      try simp only [Act.put, List.setIfInBounds_toArray, List.set_cons_zero, List.set_cons_succ]
      refine wpAnyH_take (i := 18) (oi := { dst := some 46, op := Op.build 39 #[(0, Operand.tmp 45)], type := 39, pos := "laws.go:85", after := #[{ on := 17, ground := Ground.data }, { on := 14, ground := Ground.guard }], guard := some (14, false) }) (v := ?va18) rfl (by kernel_rfl) (by kernel_rfl) (by kernel_rfl) (fun _ _ _ h => h) (Or.inl ⟨by rfl, ?hya18⟩) (by assumption) ?resta18
      case hya18 =>
        intro w hSw
        (try dsimp only at hSw)
        go_simp
        try with_reducible rfl
      try simp only [Act.put, List.setIfInBounds_toArray, List.set_cons_zero, List.set_cons_succ]
      refine wpAnyH_ready (rs := [16]) (by kernel_rfl) (by simp) ?_
      refine AllReadyH.cons (o := { dst := some 44, op := Op.call { callee := Callee.value (Operand.func 17), args := #[Operand.tmp 43], argTypes := #[9] }, type := 39, pos := "laws.go:85", after := #[{ on := 15, ground := Ground.data }, { on := 14, ground := Ground.chain }, { on := 14, ground := Ground.guard }], guard := some (14, false) }) rfl (fun K hK => ?_) AllReadyH.nil
      go_simp
      (go_at_call 17; refine (K4.out _ BC.out).mono ?_; rintro e wD ⟨rfl, hbD⟩; have TD := N9.below (n := w4.heap.size + 1) (b := w1.heap.size) (c := w4.heap.size) (sc := sc) (ho := ho) (pa := pa) (po := po) (xs := xs) (xh := xh) (xp := xp) (xo := xo) (xc := 0) (by unfold N9; go_keep) hbD; obtain ⟨zD, ⟨p0D, p1D, p2D, p3D⟩, q0D, q1D, q2D, q3D, q4D⟩ := TD; have BD : Hid (Below w.heap.size w wD) := BC.out.trans (hbD.mono BC.out.size))
      try (go_wp2_with fail)
      refine hK.out _ _ ?_ (fun hH4 => ?_)
      · (try dsimp only)
        go_keep
      clear hK K hH3
      try simp only [Act.put, List.setIfInBounds_toArray, List.set_cons_zero, List.set_cons_succ]
      refine wpAnyH_take (i := 19) (oi := { dst := some 47, op := Op.binOp BinOp.eql 39 (Operand.tmp 44) (Operand.tmp 46) 39, type := 4, pos := "laws.go:85", after := #[{ on := 16, ground := Ground.data }, { on := 18, ground := Ground.data }, { on := 14, ground := Ground.guard }], guard := some (14, false) }) (v := ?va19) rfl (by kernel_rfl) (by kernel_rfl) (by kernel_rfl) (fun _ _ _ h => h) (Or.inl ⟨by rfl, ?hya19⟩) (by assumption) ?resta19
      case hya19 =>
        intro w hSw
        (try dsimp only at hSw)
        go_simp
        try with_reducible rfl
      try simp only [Act.put, List.setIfInBounds_toArray, List.set_cons_zero, List.set_cons_succ]
      refine wpAnyH_take (i := 20) (oi := { dst := some 48, op := Op.pick (Operand.tmp 42) (Operand.const (Value.bool true)) (Operand.tmp 47), type := 4, pos := "laws.go:85", after := #[{ on := 14, ground := Ground.data }, { on := 19, ground := Ground.data }, { on := 11, ground := Ground.guard }], guard := some (11, true) }) (v := ?va20) rfl (by kernel_rfl) (by kernel_rfl) (by kernel_rfl) (fun _ _ _ h => h) (Or.inl ⟨by rfl, ?hya20⟩) (by assumption) ?resta20
      case hya20 =>
        intro w hSw
        (try dsimp only at hSw)
        go_simp
        try with_reducible rfl
      try simp only [Act.put, List.setIfInBounds_toArray, List.set_cons_zero, List.set_cons_succ]
      refine wpAnyH_take (i := 21) (oi := { dst := some 49, op := Op.pick (Operand.tmp 39) (Operand.tmp 48) (Operand.const (Value.bool false)), type := 4, pos := "laws.go:85", after := #[{ on := 11, ground := Ground.data }, { on := 20, ground := Ground.data }], guard := none }) (v := ?va21) rfl (by kernel_rfl) (by kernel_rfl) (by kernel_rfl) (fun _ _ _ h => h) (Or.inl ⟨by rfl, ?hya21⟩) (by assumption) ?resta21
      case hya21 =>
        intro w hSw
        (try dsimp only at hSw)
        go_simp
        try with_reducible rfl
      try simp only [Act.put, List.setIfInBounds_toArray, List.set_cons_zero, List.set_cons_succ]
      refine wpAnyH_take (i := 22) (oi := { dst := some 50, op := Op.move (Operand.tmp 49), type := 4, pos := "laws.go:85", after := #[{ on := 21, ground := Ground.data }, { on := 16, ground := Ground.chain }], guard := none }) (v := ?va22) rfl (by kernel_rfl) (by kernel_rfl) (by kernel_rfl) (fun _ _ _ h => h) (Or.inl ⟨by rfl, ?hya22⟩) (by assumption) ?resta22
      case hya22 =>
        intro w hSw
        (try dsimp only at hSw)
        go_simp
        try with_reducible rfl
      try simp only [Act.put, List.setIfInBounds_toArray, List.set_cons_zero, List.set_cons_succ]
      refine wpAnyH_take (i := 23) (oi := { dst := some 51, op := Op.load 39 (Operand.tmp 8), type := 39, pos := "laws.go:85", after := #[{ on := 22, ground := Ground.guard }], guard := some (22, true) }) (v := ?va23) rfl (by kernel_rfl) (by kernel_rfl) (by kernel_rfl) (fun _ _ _ h => h) (Or.inl ⟨by rfl, ?hya23⟩) (by assumption) ?resta23
      case hya23 =>
        intro w hSw
        (try dsimp only at hSw)
        go_simp
        try with_reducible rfl
      try simp only [Act.put, List.setIfInBounds_toArray, List.set_cons_zero, List.set_cons_succ]
      refine wpAnyH_take (i := 24) (oi := { dst := some 52, op := Op.move (Operand.tmp 7), type := 9, pos := "laws.go:85", after := #[{ on := 22, ground := Ground.guard }], guard := some (22, true) }) (v := ?va24) rfl (by kernel_rfl) (by kernel_rfl) (by kernel_rfl) (fun _ _ _ h => h) (Or.inl ⟨by rfl, ?hya24⟩) (by assumption) ?resta24
      case hya24 =>
        intro w hSw
        (try dsimp only at hSw)
        go_simp
        try with_reducible rfl
      try simp only [Act.put, List.setIfInBounds_toArray, List.set_cons_zero, List.set_cons_succ]
      refine wpAnyH_ready (rs := [25]) (by kernel_rfl) (by simp) ?_
      refine AllReadyH.cons (o := { dst := some 53, op := Op.call { callee := Callee.value (Operand.func 22), args := #[Operand.tmp 52], argTypes := #[9] }, type := 39, pos := "laws.go:85", after := #[{ on := 24, ground := Ground.data }, { on := 22, ground := Ground.chain }, { on := 22, ground := Ground.guard }], guard := some (22, true) }) rfl (fun K hK => ?_) AllReadyH.nil
      go_simp
      (go_at_call 22; refine (K5.out _).mono ?_; rintro e wE ⟨rfl, hbE⟩; have TE := N9.below (n := w4.heap.size + 1) (b := w1.heap.size) (c := w4.heap.size) (sc := sc) (ho := ho) (pa := pa) (po := po) (xs := xs) (xh := xh) (xp := xp) (xo := xo) (xc := 0) (by unfold N9; go_keep) hbE; obtain ⟨zE, ⟨p0E, p1E, p2E, p3E⟩, q0E, q1E, q2E, q3E, q4E⟩ := TE; have BE : Hid (Below w.heap.size w wE) := BD.out.trans (hbE.mono BD.out.size))
      try (go_wp2_with fail)
      refine hK.out _ _ ?_ (fun hH5 => ?_)
      · (try dsimp only)
        go_keep
      clear hK K hH4
      try simp only [Act.put, List.setIfInBounds_toArray, List.set_cons_zero, List.set_cons_succ]
      refine wpAnyH_take (i := 26) (oi := { dst := some 54, op := Op.binOp BinOp.eql 39 (Operand.tmp 51) (Operand.tmp 53) 39, type := 4, pos := "laws.go:85", after := #[{ on := 23, ground := Ground.data }, { on := 25, ground := Ground.data }, { on := 22, ground := Ground.guard }], guard := some (22, true) }) (v := ?va26) rfl (by kernel_rfl) (by kernel_rfl) (by kernel_rfl) (fun _ _ _ h => h) (Or.inl ⟨by rfl, ?hya26⟩) (by assumption) ?resta26
      case hya26 =>
        intro w hSw
        (try dsimp only at hSw)
        go_simp
        try with_reducible rfl
      try simp only [Act.put, List.setIfInBounds_toArray, List.set_cons_zero, List.set_cons_succ]
      refine wpAnyH_take (i := 27) (oi := { dst := some 55, op := Op.pick (Operand.tmp 50) (Operand.tmp 54) (Operand.const (Value.bool false)), type := 4, pos := "laws.go:85", after := #[{ on := 22, ground := Ground.data }, { on := 26, ground := Ground.data }], guard := none }) (v := ?va27) rfl (by kernel_rfl) (by kernel_rfl) (by kernel_rfl) (fun _ _ _ h => h) (Or.inl ⟨by rfl, ?hya27⟩) (by assumption) ?resta27
      case hya27 =>
        intro w hSw
        (try dsimp only at hSw)
        go_simp
        try with_reducible rfl
      try simp only [Act.put, List.setIfInBounds_toArray, List.set_cons_zero, List.set_cons_succ]
      refine wpAnyH_take (i := 28) (oi := { dst := some 56, op := Op.move (Operand.tmp 55), type := 4, pos := "laws.go:85", after := #[{ on := 27, ground := Ground.data }, { on := 25, ground := Ground.chain }], guard := none }) (v := ?va28) rfl (by kernel_rfl) (by kernel_rfl) (by kernel_rfl) (fun _ _ _ h => h) (Or.inl ⟨by rfl, ?hya28⟩) (by assumption) ?resta28
      case hya28 =>
        intro w hSw
        (try dsimp only at hSw)
        go_simp
        try with_reducible rfl
      try simp only [Act.put, List.setIfInBounds_toArray, List.set_cons_zero, List.set_cons_succ]
      refine wpAnyH_take (i := 29) (oi := { dst := some 57, op := Op.fieldAddr 39 (Operand.tmp 8) 1, type := 0, pos := "laws.go:85", after := #[{ on := 28, ground := Ground.guard }], guard := some (28, true) }) (v := ?va29) rfl (by kernel_rfl) (by kernel_rfl) (by kernel_rfl) (fun _ _ _ h => h) (Or.inl ⟨by rfl, ?hya29⟩) (by assumption) ?resta29
      case hya29 =>
        intro w hSw
        (try dsimp only at hSw)
        go_simp
        try with_reducible rfl
      try simp only [Act.put, List.setIfInBounds_toArray, List.set_cons_zero, List.set_cons_succ]
      refine wpAnyH_take (i := 30) (oi := { dst := some 58, op := Op.load 2 (Operand.tmp 57), type := 2, pos := "laws.go:85", after := #[{ on := 29, ground := Ground.data }, { on := 28, ground := Ground.guard }], guard := some (28, true) }) (v := ?va30) rfl (by kernel_rfl) (by kernel_rfl) (by kernel_rfl) (fun _ _ _ h => h) (Or.inl ⟨by rfl, ?hya30⟩) (by assumption) ?resta30
      case hya30 =>
        intro w hSw
        (try dsimp only at hSw)
        go_simp
        try with_reducible rfl
      try simp only [Act.put, List.setIfInBounds_toArray, List.set_cons_zero, List.set_cons_succ]
      refine wpAnyH_take (i := 31) (oi := { dst := some 59, op := Op.binOp BinOp.neq 2 (Operand.tmp 58) (Operand.const (Value.int IntKind.i64 0)) 2, type := 4, pos := "laws.go:85", after := #[{ on := 30, ground := Ground.data }, { on := 28, ground := Ground.guard }], guard := some (28, true) }) (v := ?va31) rfl (by kernel_rfl) (by kernel_rfl) (by kernel_rfl) (fun _ _ _ h => h) (Or.inl ⟨by rfl, ?hya31⟩) (by assumption) ?resta31
      case hya31 =>
        intro w hSw
        (try dsimp only at hSw)
        go_simp
        try with_reducible rfl
      try simp only [Act.put, List.setIfInBounds_toArray, List.set_cons_zero, List.set_cons_succ]
      refine wpAnyH_take (i := 32) (oi := { dst := some 60, op := Op.move (Operand.tmp 59), type := 4, pos := "laws.go:85", after := #[{ on := 31, ground := Ground.data }, { on := 28, ground := Ground.chain }, { on := 28, ground := Ground.guard }], guard := some (28, true) }) (v := ?va32) rfl (by kernel_rfl) (by kernel_rfl) (by kernel_rfl) (fun _ _ _ h => h) (Or.inl ⟨by rfl, ?hya32⟩) (by assumption) ?resta32
      case hya32 =>
        intro w hSw
        (try dsimp only at hSw)
        go_simp
        try with_reducible rfl
      try simp only [Act.put, List.setIfInBounds_toArray, List.set_cons_zero, List.set_cons_succ]
      refine wpAnyH_take (i := 33) (oi := { dst := some 61, op := Op.fieldAddr 39 (Operand.tmp 8) 0, type := 0, pos := "laws.go:85", after := #[{ on := 32, ground := Ground.guard }], guard := some (32, false) }) (v := ?va33) rfl (by kernel_rfl) (by kernel_rfl) (by kernel_rfl) (fun _ _ _ h => h) (Or.inl ⟨by rfl, ?hya33⟩) (by assumption) ?resta33
      case hya33 =>
        intro w hSw
        (try dsimp only at hSw)
        go_simp
        try with_reducible rfl
      try simp only [Act.put, List.setIfInBounds_toArray, List.set_cons_zero, List.set_cons_succ]
      refine wpAnyH_take (i := 34) (oi := { dst := some 62, op := Op.load 35 (Operand.tmp 61), type := 35, pos := "laws.go:85", after := #[{ on := 33, ground := Ground.data }, { on := 32, ground := Ground.guard }], guard := some (32, false) }) (v := ?va34) rfl (by kernel_rfl) (by kernel_rfl) (by kernel_rfl) (fun _ _ _ h => h) (Or.inl ⟨by rfl, ?hya34⟩) (by assumption) ?resta34
      case hya34 =>
        intro w hSw
        (try dsimp only at hSw)
        go_simp
        try with_reducible rfl
      try simp only [Act.put, List.setIfInBounds_toArray, List.set_cons_zero, List.set_cons_succ]
      refine wpAnyH_take (i := 36) (oi := { dst := some 64, op := Op.move (Operand.tmp 7), type := 9, pos := "laws.go:85", after := #[{ on := 32, ground := Ground.guard }], guard := some (32, false) }) (v := ?va36) rfl (by kernel_rfl) (by kernel_rfl) (by kernel_rfl) (fun _ _ _ h => h) (Or.inl ⟨by rfl, ?hya36⟩) (by assumption) ?resta36
      case hya36 =>
        intro w hSw
        (try dsimp only at hSw)
        go_simp
        try with_reducible rfl
      try simp only [Act.put, List.setIfInBounds_toArray, List.set_cons_zero, List.set_cons_succ]
      refine wpAnyH_ready (rs := [35]) (by kernel_rfl) (by simp) ?_
      refine AllReadyH.cons (o := { dst := some 63, op := Op.call { callee := Callee.value (Operand.func 15), args := #[Operand.tmp 62], argTypes := #[35] }, type := 9, pos := "laws.go:85", after := #[{ on := 34, ground := Ground.data }, { on := 32, ground := Ground.chain }, { on := 32, ground := Ground.guard }], guard := some (32, false) }) rfl (fun K hK => ?_) AllReadyH.nil
      go_simp
      (go_at_call 15; refine (K6.out _ BE.out).mono ?_; rintro e wF ⟨rfl, hbF⟩; have TF := N9.below (n := w4.heap.size + 1) (b := w1.heap.size) (c := w4.heap.size) (sc := sc) (ho := ho) (pa := pa) (po := po) (xs := xs) (xh := xh) (xp := xp) (xo := xo) (xc := 0) (by unfold N9; go_keep) hbF; obtain ⟨zF, ⟨p0F, p1F, p2F, p3F⟩, q0F, q1F, q2F, q3F, q4F⟩ := TF; have BF : Hid (Below w.heap.size w wF) := BE.out.trans (hbF.mono BE.out.size))
      try (go_wp2_with fail)
      refine hK.out _ _ ?_ (fun hH6 => ?_)
      · (try dsimp only)
        go_keep
      clear hK K hH5
      try simp only [Act.put, List.setIfInBounds_toArray, List.set_cons_zero, List.set_cons_succ]
      refine wpAnyH_take (i := 37) (oi := { dst := some 65, op := Op.binOp BinOp.eql 9 (Operand.tmp 63) (Operand.tmp 64) 9, type := 4, pos := "laws.go:85", after := #[{ on := 35, ground := Ground.data }, { on := 36, ground := Ground.data }, { on := 32, ground := Ground.guard }], guard := some (32, false) }) (v := ?va37) rfl (by kernel_rfl) (by kernel_rfl) (by kernel_rfl) (fun _ _ _ h => h) (Or.inl ⟨by rfl, ?hya37⟩) (by assumption) ?resta37
      case hya37 =>
        intro w hSw
        (try dsimp only at hSw)
        go_simp
        try with_reducible rfl
      try simp only [Act.put, List.setIfInBounds_toArray, List.set_cons_zero, List.set_cons_succ]
      refine wpAnyH_take (i := 38) (oi := { dst := some 66, op := Op.pick (Operand.tmp 60) (Operand.const (Value.bool true)) (Operand.tmp 65), type := 4, pos := "laws.go:85", after := #[{ on := 32, ground := Ground.data }, { on := 37, ground := Ground.data }, { on := 28, ground := Ground.guard }], guard := some (28, true) }) (v := ?va38) rfl (by kernel_rfl) (by kernel_rfl) (by kernel_rfl) (fun _ _ _ h => h) (Or.inl ⟨by rfl, ?hya38⟩) (by assumption) ?resta38
      case hya38 =>
        intro w hSw
        (try dsimp only at hSw)
        go_simp
        try with_reducible rfl
      try simp only [Act.put, List.setIfInBounds_toArray, List.set_cons_zero, List.set_cons_succ]
      refine wpAnyH_take (i := 39) (oi := { dst := some 67, op := Op.pick (Operand.tmp 56) (Operand.tmp 66) (Operand.const (Value.bool false)), type := 4, pos := "laws.go:85", after := #[{ on := 28, ground := Ground.data }, { on := 38, ground := Ground.data }], guard := none }) (v := ?va39) rfl (by kernel_rfl) (by kernel_rfl) (by kernel_rfl) (fun _ _ _ h => h) (Or.inl ⟨by rfl, ?hya39⟩) (by assumption) ?resta39
      case hya39 =>
        intro w hSw
        (try dsimp only at hSw)
        go_simp
        try with_reducible rfl
      try simp only [Act.put, List.setIfInBounds_toArray, List.set_cons_zero, List.set_cons_succ]
      refine wpAnyH_take (i := 40) (oi := { dst := some 68, op := Op.move (Operand.tmp 67), type := 4, pos := "laws.go:85", after := #[{ on := 39, ground := Ground.data }, { on := 35, ground := Ground.chain }], guard := none }) (v := ?va40) rfl (by kernel_rfl) (by kernel_rfl) (by kernel_rfl) (fun _ _ _ h => h) (Or.inl ⟨by rfl, ?hya40⟩) (by assumption) ?resta40
      case hya40 =>
        intro w hSw
        (try dsimp only at hSw)
        go_simp
        try with_reducible rfl
      try simp only [Act.put, List.setIfInBounds_toArray, List.set_cons_zero, List.set_cons_succ]
      refine wpAnyH_take (i := 41) (oi := { dst := some 69, op := Op.move (Operand.tmp 9), type := 9, pos := "laws.go:85", after := #[{ on := 40, ground := Ground.guard }], guard := some (40, true) }) (v := ?va41) rfl (by kernel_rfl) (by kernel_rfl) (by kernel_rfl) (fun _ _ _ h => h) (Or.inl ⟨by rfl, ?hya41⟩) (by assumption) ?resta41
      case hya41 =>
        intro w hSw
        (try dsimp only at hSw)
        go_simp
        try with_reducible rfl
      try simp only [Act.put, List.setIfInBounds_toArray, List.set_cons_zero, List.set_cons_succ]
      refine wpAnyH_take (i := 43) (oi := { dst := some 71, op := Op.move (Operand.tmp 9), type := 9, pos := "laws.go:85", after := #[{ on := 40, ground := Ground.guard }], guard := some (40, true) }) (v := ?va43) rfl (by kernel_rfl) (by kernel_rfl) (by kernel_rfl) (fun _ _ _ h => h) (Or.inl ⟨by rfl, ?hya43⟩) (by assumption) ?resta43
      case hya43 =>
        intro w hSw
        (try dsimp only at hSw)
        go_simp
        try with_reducible rfl
      try simp only [Act.put, List.setIfInBounds_toArray, List.set_cons_zero, List.set_cons_succ]
      refine wpAnyH_ready (rs := [42]) (by kernel_rfl) (by simp) ?_
      refine AllReadyH.cons (o := { dst := some 70, op := Op.call { callee := Callee.value (Operand.func 24), args := #[Operand.tmp 69], argTypes := #[9] }, type := 43, pos := "laws.go:85", after := #[{ on := 41, ground := Ground.data }, { on := 40, ground := Ground.chain }, { on := 40, ground := Ground.guard }], guard := some (40, true) }) rfl (fun K hK => ?_) AllReadyH.nil
      go_simp
      (go_at_call 24; refine (K7.out _ BF.out).mono ?_; rintro e wG ⟨vG, rfl, slG, hbG⟩; have TG := N9.below (n := w4.heap.size + 1) (b := w1.heap.size) (c := w4.heap.size) (sc := sc) (ho := ho) (pa := pa) (po := po) (xs := xs) (xh := xh) (xp := xp) (xo := xo) (xc := 0) (by unfold N9; go_keep) hbG; obtain ⟨zG, ⟨p0G, p1G, p2G, p3G⟩, q0G, q1G, q2G, q3G, q4G⟩ := TG; have BG : Hid (Below w.heap.size w wG) := BF.out.trans (hbG.mono BF.out.size))
      try (go_wp2_with fail)
      refine hK.out _ _ ?_ (fun hH7 => ?_)
      · (try dsimp only)
        go_keep
      clear hK K hH6
      try simp only [Act.put, List.setIfInBounds_toArray, List.set_cons_zero, List.set_cons_succ]
      refine wpAnyH_ready (rs := [44]) (by kernel_rfl) (by simp) ?_
      refine AllReadyH.cons (o := { dst := some 72, op := Op.call { callee := Callee.value (Operand.func 25), args := #[Operand.tmp 71], argTypes := #[9] }, type := 43, pos := "laws.go:85", after := #[{ on := 43, ground := Ground.data }, { on := 42, ground := Ground.chain }, { on := 40, ground := Ground.guard }], guard := some (40, true) }) rfl (fun K hK => ?_) AllReadyH.nil
      go_simp
      (go_at_call 25; refine (K8.out _).mono ?_; rintro e wH ⟨vH, rfl, slH, hbH⟩; have TH := N9.below (n := w4.heap.size + 1) (b := w1.heap.size) (c := w4.heap.size) (sc := sc) (ho := ho) (pa := pa) (po := po) (xs := xs) (xh := xh) (xp := xp) (xo := xo) (xc := 0) (by unfold N9; go_keep) hbH; obtain ⟨zH, ⟨p0H, p1H, p2H, p3H⟩, q0H, q1H, q2H, q3H, q4H⟩ := TH; have BH : Hid (Below w.heap.size w wH) := BG.out.trans (hbH.mono BG.out.size))
      try (go_wp2_with fail)
      refine hK.out _ _ ?_ (fun hH8 => ?_)
      · (try dsimp only)
        go_keep
      clear hK K hH7
      try simp only [Act.put, List.setIfInBounds_toArray, List.set_cons_zero, List.set_cons_succ]
      refine wpAnyH_ready (rs := [45]) (by kernel_rfl) (by simp) ?_
      refine AllReadyH.cons (o := { dst := some 73, op := Op.call { callee := Callee.value (Operand.func 23), args := #[Operand.tmp 70, Operand.tmp 72], argTypes := #[43, 43] }, type := 4, pos := "laws.go:85", after := #[{ on := 42, ground := Ground.data }, { on := 44, ground := Ground.data }, { on := 44, ground := Ground.chain }, { on := 40, ground := Ground.guard }], guard := some (40, true) }) rfl (fun K hK => ?_) AllReadyH.nil
      go_simp
      (go_at_call 23; refine (lwTexts_any _ _ _ _ _ _ _ (slG.below hbH) slH hn).mono ?_; rintro e wI ⟨rfl, hbI⟩; have TI := N9.below (n := w4.heap.size + 1) (b := w1.heap.size) (c := w4.heap.size) (sc := sc) (ho := ho) (pa := pa) (po := po) (xs := xs) (xh := xh) (xp := xp) (xo := xo) (xc := 0) (by unfold N9; go_keep) hbI; obtain ⟨zI, ⟨p0I, p1I, p2I, p3I⟩, q0I, q1I, q2I, q3I, q4I⟩ := TI; have BI : Hid (Below w.heap.size w wI) := BH.out.trans (hbI.mono BH.out.size))
      try (go_wp2_with fail)
      refine hK.out _ _ ?_ (fun hH9 => ?_)
      · (try dsimp only)
        go_keep
      clear hK K hH8
      try simp only [Act.put, List.setIfInBounds_toArray, List.set_cons_zero, List.set_cons_succ]
      refine wpAnyH_take (i := 46) (oi := { dst := some 74, op := Op.pick (Operand.tmp 68) (Operand.tmp 73) (Operand.const (Value.bool false)), type := 4, pos := "laws.go:85", after := #[{ on := 40, ground := Ground.data }, { on := 45, ground := Ground.data }], guard := none }) (v := ?va46) rfl (by kernel_rfl) (by kernel_rfl) (by kernel_rfl) (fun _ _ _ h => h) (Or.inl ⟨by rfl, ?hya46⟩) (by assumption) ?resta46
      case hya46 =>
        intro w hSw
        (try dsimp only at hSw)
        go_simp
        try with_reducible rfl
      try simp only [Act.put, List.setIfInBounds_toArray, List.set_cons_zero, List.set_cons_succ]
      refine wpAnyH_take (i := 47) (oi := { dst := some 75, op := Op.move (Operand.tmp 74), type := 4, pos := "laws.go:85", after := #[{ on := 46, ground := Ground.data }, { on := 45, ground := Ground.chain }], guard := none }) (v := ?va47) rfl (by kernel_rfl) (by kernel_rfl) (by kernel_rfl) (fun _ _ _ h => h) (Or.inl ⟨by rfl, ?hya47⟩) (by assumption) ?resta47
      case hya47 =>
        intro w hSw
        (try dsimp only at hSw)
        go_simp
        try with_reducible rfl
      try simp only [Act.put, List.setIfInBounds_toArray, List.set_cons_zero, List.set_cons_succ]
      refine wpAnyH_take (i := 48) (oi := { dst := some 76, op := Op.move (Operand.tmp 9), type := 9, pos := "laws.go:85", after := #[{ on := 47, ground := Ground.guard }], guard := some (47, true) }) (v := ?va48) rfl (by kernel_rfl) (by kernel_rfl) (by kernel_rfl) (fun _ _ _ h => h) (Or.inl ⟨by rfl, ?hya48⟩) (by assumption) ?resta48
      case hya48 =>
        intro w hSw
        (try dsimp only at hSw)
        go_simp
        try with_reducible rfl
      try simp only [Act.put, List.setIfInBounds_toArray, List.set_cons_zero, List.set_cons_succ]
      refine wpAnyH_take (i := 50) (oi := { dst := some 78, op := Op.move (Operand.tmp 9), type := 9, pos := "laws.go:85", after := #[{ on := 47, ground := Ground.guard }], guard := some (47, true) }) (v := ?va50) rfl (by kernel_rfl) (by kernel_rfl) (by kernel_rfl) (fun _ _ _ h => h) (Or.inl ⟨by rfl, ?hya50⟩) (by assumption) ?resta50
      case hya50 =>
        intro w hSw
        (try dsimp only at hSw)
        go_simp
        try with_reducible rfl
      try simp only [Act.put, List.setIfInBounds_toArray, List.set_cons_zero, List.set_cons_succ]
      refine wpAnyH_ready (rs := [49]) (by kernel_rfl) (by simp) ?_
      refine AllReadyH.cons (o := { dst := some 77, op := Op.call { callee := Callee.value (Operand.func 26), args := #[Operand.tmp 76], argTypes := #[9] }, type := 4, pos := "laws.go:85", after := #[{ on := 48, ground := Ground.data }, { on := 47, ground := Ground.chain }, { on := 47, ground := Ground.guard }], guard := some (47, true) }) rfl (fun K hK => ?_) AllReadyH.nil
      go_simp
      (go_at_call 26; refine (K10.out _ BI.out).mono ?_; rintro e wJ ⟨rfl, hbJ⟩; have TJ := N9.below (n := w4.heap.size + 1) (b := w1.heap.size) (c := w4.heap.size) (sc := sc) (ho := ho) (pa := pa) (po := po) (xs := xs) (xh := xh) (xp := xp) (xo := xo) (xc := 0) (by unfold N9; go_keep) hbJ; obtain ⟨zJ, ⟨p0J, p1J, p2J, p3J⟩, q0J, q1J, q2J, q3J, q4J⟩ := TJ; have BJ : Hid (Below w.heap.size w wJ) := BI.out.trans (hbJ.mono BI.out.size))
      try (go_wp2_with fail)
      refine hK.out _ _ ?_ (fun hH10 => ?_)
      · (try dsimp only)
        go_keep
      clear hK K hH9
      try simp only [Act.put, List.setIfInBounds_toArray, List.set_cons_zero, List.set_cons_succ]
      refine wpAnyH_ready (rs := [51]) (by kernel_rfl) (by simp) ?_
      refine AllReadyH.cons (o := { dst := some 79, op := Op.call { callee := Callee.value (Operand.func 27), args := #[Operand.tmp 78], argTypes := #[9] }, type := 4, pos := "laws.go:85", after := #[{ on := 50, ground := Ground.data }, { on := 49, ground := Ground.chain }, { on := 47, ground := Ground.guard }], guard := some (47, true) }) rfl (fun K hK => ?_) AllReadyH.nil
      go_simp
      (go_at_call 27; refine (K11.out _).mono ?_; rintro e wK ⟨rfl, hbK⟩; have TK := N9.below (n := w4.heap.size + 1) (b := w1.heap.size) (c := w4.heap.size) (sc := sc) (ho := ho) (pa := pa) (po := po) (xs := xs) (xh := xh) (xp := xp) (xo := xo) (xc := 0) (by unfold N9; go_keep) hbK; obtain ⟨zK, ⟨p0K, p1K, p2K, p3K⟩, q0K, q1K, q2K, q3K, q4K⟩ := TK; have BK : Hid (Below w.heap.size w wK) := BJ.out.trans (hbK.mono BJ.out.size))
      try (go_wp2_with fail)
      refine hK.out _ _ ?_ (fun hH11 => ?_)
      · (try dsimp only)
        go_keep
      clear hK K hH10
      try simp only [Act.put, List.setIfInBounds_toArray, List.set_cons_zero, List.set_cons_succ]
      refine wpAnyH_take (i := 52) (oi := { dst := some 80, op := Op.binOp BinOp.eql 4 (Operand.tmp 77) (Operand.tmp 79) 4, type := 4, pos := "laws.go:85", after := #[{ on := 49, ground := Ground.data }, { on := 51, ground := Ground.data }, { on := 47, ground := Ground.guard }], guard := some (47, true) }) (v := ?va52) rfl (by kernel_rfl) (by kernel_rfl) (by kernel_rfl) (fun _ _ _ h => h) (Or.inl ⟨by rfl, ?hya52⟩) (by assumption) ?resta52
      case hya52 =>
        intro w hSw
        (try dsimp only at hSw)
        go_simp
        try with_reducible rfl
      try simp only [Act.put, List.setIfInBounds_toArray, List.set_cons_zero, List.set_cons_succ]
      refine wpAnyH_take (i := 53) (oi := { dst := some 81, op := Op.pick (Operand.tmp 75) (Operand.tmp 80) (Operand.const (Value.bool false)), type := 4, pos := "laws.go:85", after := #[{ on := 47, ground := Ground.data }, { on := 52, ground := Ground.data }], guard := none }) (v := ?va53) rfl (by kernel_rfl) (by kernel_rfl) (by kernel_rfl) (fun _ _ _ h => h) (Or.inl ⟨by rfl, ?hya53⟩) (by assumption) ?resta53
      case hya53 =>
        intro w hSw
        (try dsimp only at hSw)
        go_simp
        try with_reducible rfl
      try simp only [Act.put, List.setIfInBounds_toArray, List.set_cons_zero, List.set_cons_succ]
      refine wpAnyH_take (i := 54) (oi := { dst := some 4, op := Op.assign (Operand.tmp 81), type := 4, pos := "laws.go:85", after := #[{ on := 53, ground := Ground.data }, { on := 51, ground := Ground.chain }, { on := 0, ground := Ground.phase }, { on := 1, ground := Ground.phase }, { on := 2, ground := Ground.phase }, { on := 3, ground := Ground.phase }, { on := 4, ground := Ground.phase }, { on := 5, ground := Ground.phase }, { on := 6, ground := Ground.phase }, { on := 7, ground := Ground.phase }, { on := 8, ground := Ground.phase }, { on := 9, ground := Ground.phase }, { on := 10, ground := Ground.phase }, { on := 11, ground := Ground.phase }, { on := 12, ground := Ground.phase }, { on := 13, ground := Ground.phase }, { on := 14, ground := Ground.phase }, { on := 15, ground := Ground.phase }, { on := 16, ground := Ground.phase }, { on := 17, ground := Ground.phase }, { on := 18, ground := Ground.phase }, { on := 19, ground := Ground.phase }, { on := 20, ground := Ground.phase }, { on := 21, ground := Ground.phase }, { on := 22, ground := Ground.phase }, { on := 23, ground := Ground.phase }, { on := 24, ground := Ground.phase }, { on := 25, ground := Ground.phase }, { on := 26, ground := Ground.phase }, { on := 27, ground := Ground.phase }, { on := 28, ground := Ground.phase }, { on := 29, ground := Ground.phase }, { on := 30, ground := Ground.phase }, { on := 31, ground := Ground.phase }, { on := 32, ground := Ground.phase }, { on := 33, ground := Ground.phase }, { on := 34, ground := Ground.phase }, { on := 35, ground := Ground.phase }, { on := 36, ground := Ground.phase }, { on := 37, ground := Ground.phase }, { on := 38, ground := Ground.phase }, { on := 39, ground := Ground.phase }, { on := 40, ground := Ground.phase }, { on := 41, ground := Ground.phase }, { on := 42, ground := Ground.phase }, { on := 43, ground := Ground.phase }, { on := 44, ground := Ground.phase }, { on := 45, ground := Ground.phase }, { on := 46, ground := Ground.phase }, { on := 47, ground := Ground.phase }, { on := 48, ground := Ground.phase }, { on := 49, ground := Ground.phase }, { on := 50, ground := Ground.phase }, { on := 51, ground := Ground.phase }, { on := 52, ground := Ground.phase }, { on := 53, ground := Ground.phase }], guard := none }) (v := ?va54) rfl (by kernel_rfl) (by kernel_rfl) (by kernel_rfl) (fun _ _ _ h => h) (Or.inl ⟨by rfl, ?hya54⟩) (by assumption) ?resta54
      case hya54 =>
        intro w hSw
        (try dsimp only at hSw)
        go_simp
        try with_reducible rfl
      try simp only [Act.put, List.setIfInBounds_toArray, List.set_cons_zero, List.set_cons_succ]
      refine wpAnyH_done (by kernel_rfl) ?_ _
      go_wp2
      go_ret
      exact ⟨rfl, BK.out⟩
    case neg =>
      have K1 : Hid (∀ W, Calls Tryd.prog 19 #[.agg #[.string sc, .string ho, .int .i64 po, .string pa]] W fun e w' => e = .returned (.string (urlT sc ho pa po)) ∧ Below W.heap.size W w') := fun W => specUrlText_any sc ho pa po W
      have K2 : Hid (∀ W, Below w.heap.size w W → Calls Tryd.prog 20 #[.agg #[.string sc, .string ho, .int .i64 po, .string pa]] W fun e w' => e = .returned (.bool (urlB sc ho pa po)) ∧ Below W.heap.size W w') := fun W hb => HR.out sc ho pa po W hb (by omega)
      have K3 : Hid (∀ W, Calls Tryd.prog 21 #[.agg #[.string sc, .string ho, .int .i64 po, .string pa]] W fun e w' => e = .returned (.bool (urlB sc ho pa po)) ∧ Below W.heap.size W w') := fun W => specUrlRight_any sc ho pa po W
      have K5 : Hid (∀ W, Calls Tryd.prog 22 #[.string v] W fun e w' => e = .returned (.agg #[.string xs, .string xh, .int .i64 xo, .string xp, .int .i64 0]) ∧ Below W.heap.size W w') := fun W => by have := specUrlRead_any v W; rw [ev] at this; exact this
      have K7 : Hid (∀ W, Below w.heap.size w W → Calls Tryd.prog 24 #[.string h] W fun e w' => ∃ v, e = .returned v ∧ SliceS w' W.heap.size v (labelsL h).length (atL (labelsL h)) ∧ Below W.heap.size W w') := fun W hb => HL.out h W hb (by omega)
      have K8 : Hid (∀ W, Calls Tryd.prog 25 #[.string h] W fun e w' => ∃ v, e = .returned v ∧ SliceS w' W.heap.size v (labelsL h).length (atL (labelsL h)) ∧ Below W.heap.size W w') := fun W => specLabelsOf_any h W
      have K10 : Hid (∀ W, Below w.heap.size w W → Calls Tryd.prog 26 #[.string h] W fun e w' => e = .returned (.bool (hostB h)) ∧ Below W.heap.size W w') := fun W hb => HH.out h W hb (by omega)
      have K11 : Hid (∀ W, Calls Tryd.prog 27 #[.string h] W fun e w' => e = .returned (.bool (hostB h)) ∧ Below W.heap.size W w') := fun W => specHost_any h W
      have hn : (labelsL h).length ≤ 1048576 := by have := labelsL_len h; omega
      have K6 : Hid (∀ W, Below w.heap.size w W → Calls Tryd.prog 15 #[.agg #[.string xs, .string xh, .int .i64 xo, .string xp]] W fun e w' => e = .returned (.string v) ∧ Below W.heap.size W w') := fun W hb => by have := HT.out xs xh xp xo W hb hxs; rw [HX] at this; exact this
      have hemp : (urlT sc ho pa po).toList.isEmpty = true := by rw [urlT, if_neg hu, ByteArray.toList_eq]; rfl
      have huf : urlB sc ho pa po = false := by simpa using hu
      rw [huf] at K2 K3
      clear HT HR HD HL HH hu huf ev
      generalize urlT sc ho pa po = t at *
      generalize (labelsL h).length = n at *
      generalize atL (labelsL h) = f at *
      generalize hostB h = hbool at *
      obtain ⟨z5, ⟨p0, p1, p2, p3⟩, r0, r1, r2, r3, r4⟩ := M5
      refine wp_region_held_drew (S := (fun w' => w4.heap.size + 1 ≤ w'.heap.size ∧ (w'.cell? ⟨w1.heap.size, 0, none⟩ = some (.string sc) ∧ w'.cell? ⟨w1.heap.size, 1, none⟩ = some (.string ho) ∧ w'.cell? ⟨w1.heap.size, 2, none⟩ = some (.int .i64 po) ∧ w'.cell? ⟨w1.heap.size, 3, none⟩ = some (.string pa)) ∧ (w'.cell? ⟨w4.heap.size, 0, none⟩ = some (.string xs) ∧ w'.cell? ⟨w4.heap.size, 1, none⟩ = some (.string xh) ∧ w'.cell? ⟨w4.heap.size, 2, none⟩ = some (.int .i64 xo) ∧ w'.cell? ⟨w4.heap.size, 3, none⟩ = some (.string xp) ∧ w'.cell? ⟨w4.heap.size, 4, none⟩ = some (.int .i64 0)))) (by kernel_rfl) ?_ (fun hH0 => ?_)
      · (try dsimp only)
        go_keep
      refine wpAnyH_take (i := 0) (oi := { dst := some 28, op := Op.move (Operand.tmp 6), type := 9, pos := "laws.go:85", after := #[], guard := none }) (v := ?vb0) rfl (by kernel_rfl) (by kernel_rfl) (by kernel_rfl) (fun _ _ _ h => h) (Or.inl ⟨by rfl, ?hyb0⟩) (by assumption) ?restb0
      case hyb0 =>
        intro w hSw
        (try dsimp only at hSw)
        go_simp
        try with_reducible rfl
      try simp only [Act.put, List.setIfInBounds_toArray, List.set_cons_zero, List.set_cons_succ]
      refine wpAnyH_take (i := 1) (oi := { dst := some 29, op := Op.load 35 (Operand.tmp 5), type := 35, pos := "laws.go:85", after := #[], guard := none }) (v := ?vb1) rfl (by kernel_rfl) (by kernel_rfl) (by kernel_rfl) (fun _ _ _ h => h) (Or.inl ⟨by rfl, ?hyb1⟩) (by assumption) ?restb1
      case hyb1 =>
        intro w hSw
        (try dsimp only at hSw)
        go_simp
        try with_reducible rfl
      try simp only [Act.put, List.setIfInBounds_toArray, List.set_cons_zero, List.set_cons_succ]
      refine wpAnyH_ready (rs := [2]) (by kernel_rfl) (by simp) ?_
      refine AllReadyH.cons (o := { dst := some 30, op := Op.call { callee := Callee.value (Operand.func 19), args := #[Operand.tmp 29], argTypes := #[35] }, type := 9, pos := "laws.go:85", after := #[{ on := 1, ground := Ground.data }], guard := none }) rfl (fun K hK => ?_) AllReadyH.nil
      go_simp
      (go_at_call 19; refine (K1.out _).mono ?_; rintro e wA ⟨rfl, hbA⟩; have TA := N9.below (n := w4.heap.size + 1) (b := w1.heap.size) (c := w4.heap.size) (sc := sc) (ho := ho) (pa := pa) (po := po) (xs := xs) (xh := xh) (xp := xp) (xo := xo) (xc := 0) (by unfold N9; go_keep) hbA; obtain ⟨zA, ⟨p0A, p1A, p2A, p3A⟩, q0A, q1A, q2A, q3A, q4A⟩ := TA; have BA : Hid (Below w.heap.size w wA) := (B5.out.trans (Below.drew (Below.refl _ _))).trans (hbA.mono (by simp; omega)))
      try (go_wp2_with fail)
      refine hK.out _ _ ?_ (fun hH1 => ?_)
      · (try dsimp only)
        go_keep
      clear hK K hH0
      try simp only [Act.put, List.setIfInBounds_toArray, List.set_cons_zero, List.set_cons_succ]
      refine wpAnyH_take (i := 3) (oi := { dst := some 31, op := Op.binOp BinOp.eql 9 (Operand.tmp 28) (Operand.tmp 30) 9, type := 4, pos := "laws.go:85", after := #[{ on := 0, ground := Ground.data }, { on := 2, ground := Ground.data }], guard := none }) (v := ?vb3) rfl (by kernel_rfl) (by kernel_rfl) (by kernel_rfl) (fun _ _ _ h => h) (Or.inl ⟨by rfl, ?hyb3⟩) (by assumption) ?restb3
      case hyb3 =>
        intro w hSw
        (try dsimp only at hSw)
        go_simp
        try with_reducible rfl
      try simp only [Act.put, List.setIfInBounds_toArray, List.set_cons_zero, List.set_cons_succ]
      refine wpAnyH_take (i := 4) (oi := { dst := some 32, op := Op.move (Operand.tmp 31), type := 4, pos := "laws.go:85", after := #[{ on := 3, ground := Ground.data }, { on := 2, ground := Ground.chain }], guard := none }) (v := ?vb4) rfl (by kernel_rfl) (by kernel_rfl) (by kernel_rfl) (fun _ _ _ h => h) (Or.inl ⟨by rfl, ?hyb4⟩) (by assumption) ?restb4
      case hyb4 =>
        intro w hSw
        (try dsimp only at hSw)
        go_simp
        try with_reducible rfl
      try simp only [Act.put, List.setIfInBounds_toArray, List.set_cons_zero, List.set_cons_succ]
      refine wpAnyH_take (i := 5) (oi := { dst := some 33, op := Op.load 35 (Operand.tmp 5), type := 35, pos := "laws.go:85", after := #[{ on := 4, ground := Ground.guard }], guard := some (4, true) }) (v := ?vb5) rfl (by kernel_rfl) (by kernel_rfl) (by kernel_rfl) (fun _ _ _ h => h) (Or.inl ⟨by rfl, ?hyb5⟩) (by assumption) ?restb5
      case hyb5 =>
        intro w hSw
        (try dsimp only at hSw)
        go_simp
        try with_reducible rfl
      try simp only [Act.put, List.setIfInBounds_toArray, List.set_cons_zero, List.set_cons_succ]
      refine wpAnyH_take (i := 7) (oi := { dst := some 35, op := Op.load 35 (Operand.tmp 5), type := 35, pos := "laws.go:85", after := #[{ on := 4, ground := Ground.guard }], guard := some (4, true) }) (v := ?vb7) rfl (by kernel_rfl) (by kernel_rfl) (by kernel_rfl) (fun _ _ _ h => h) (Or.inl ⟨by rfl, ?hyb7⟩) (by assumption) ?restb7
      case hyb7 =>
        intro w hSw
        (try dsimp only at hSw)
        go_simp
        try with_reducible rfl
      try simp only [Act.put, List.setIfInBounds_toArray, List.set_cons_zero, List.set_cons_succ]
      refine wpAnyH_ready (rs := [6]) (by kernel_rfl) (by simp) ?_
      refine AllReadyH.cons (o := { dst := some 34, op := Op.call { callee := Callee.value (Operand.func 20), args := #[Operand.tmp 33], argTypes := #[35] }, type := 4, pos := "laws.go:85", after := #[{ on := 5, ground := Ground.data }, { on := 4, ground := Ground.chain }, { on := 4, ground := Ground.guard }], guard := some (4, true) }) rfl (fun K hK => ?_) AllReadyH.nil
      go_simp
      (go_at_call 20; refine (K2.out _ BA.out).mono ?_; rintro e wB ⟨rfl, hbB⟩; have TB := N9.below (n := w4.heap.size + 1) (b := w1.heap.size) (c := w4.heap.size) (sc := sc) (ho := ho) (pa := pa) (po := po) (xs := xs) (xh := xh) (xp := xp) (xo := xo) (xc := 0) (by unfold N9; go_keep) hbB; obtain ⟨zB, ⟨p0B, p1B, p2B, p3B⟩, q0B, q1B, q2B, q3B, q4B⟩ := TB; have BB : Hid (Below w.heap.size w wB) := BA.out.trans (hbB.mono BA.out.size))
      try (go_wp2_with fail)
      refine hK.out _ _ ?_ (fun hH2 => ?_)
      · (try dsimp only)
        go_keep
      clear hK K hH1
      try simp only [Act.put, List.setIfInBounds_toArray, List.set_cons_zero, List.set_cons_succ]
      refine wpAnyH_ready (rs := [8]) (by kernel_rfl) (by simp) ?_
      refine AllReadyH.cons (o := { dst := some 36, op := Op.call { callee := Callee.value (Operand.func 21), args := #[Operand.tmp 35], argTypes := #[35] }, type := 4, pos := "laws.go:85", after := #[{ on := 7, ground := Ground.data }, { on := 6, ground := Ground.chain }, { on := 4, ground := Ground.guard }], guard := some (4, true) }) rfl (fun K hK => ?_) AllReadyH.nil
      go_simp
      (go_at_call 21; refine (K3.out _).mono ?_; rintro e wC ⟨rfl, hbC⟩; have TC := N9.below (n := w4.heap.size + 1) (b := w1.heap.size) (c := w4.heap.size) (sc := sc) (ho := ho) (pa := pa) (po := po) (xs := xs) (xh := xh) (xp := xp) (xo := xo) (xc := 0) (by unfold N9; go_keep) hbC; obtain ⟨zC, ⟨p0C, p1C, p2C, p3C⟩, q0C, q1C, q2C, q3C, q4C⟩ := TC; have BC : Hid (Below w.heap.size w wC) := BB.out.trans (hbC.mono BB.out.size))
      try (go_wp2_with fail)
      refine hK.out _ _ ?_ (fun hH3 => ?_)
      · (try dsimp only)
        go_keep
      clear hK K hH2
      try simp only [Act.put, List.setIfInBounds_toArray, List.set_cons_zero, List.set_cons_succ]
      refine wpAnyH_take (i := 9) (oi := { dst := some 37, op := Op.binOp BinOp.eql 4 (Operand.tmp 34) (Operand.tmp 36) 4, type := 4, pos := "laws.go:85", after := #[{ on := 6, ground := Ground.data }, { on := 8, ground := Ground.data }, { on := 4, ground := Ground.guard }], guard := some (4, true) }) (v := ?vb9) rfl (by kernel_rfl) (by kernel_rfl) (by kernel_rfl) (fun _ _ _ h => h) (Or.inl ⟨by rfl, ?hyb9⟩) (by assumption) ?restb9
      case hyb9 =>
        intro w hSw
        (try dsimp only at hSw)
        go_simp
        try with_reducible rfl
      try simp only [Act.put, List.setIfInBounds_toArray, List.set_cons_zero, List.set_cons_succ]
      refine wpAnyH_take (i := 10) (oi := { dst := some 38, op := Op.pick (Operand.tmp 32) (Operand.tmp 37) (Operand.const (Value.bool false)), type := 4, pos := "laws.go:85", after := #[{ on := 4, ground := Ground.data }, { on := 9, ground := Ground.data }], guard := none }) (v := ?vb10) rfl (by kernel_rfl) (by kernel_rfl) (by kernel_rfl) (fun _ _ _ h => h) (Or.inl ⟨by rfl, ?hyb10⟩) (by assumption) ?restb10
      case hyb10 =>
        intro w hSw
        (try dsimp only at hSw)
        go_simp
        try with_reducible rfl
      try simp only [Act.put, List.setIfInBounds_toArray, List.set_cons_zero, List.set_cons_succ]
      refine wpAnyH_take (i := 11) (oi := { dst := some 39, op := Op.move (Operand.tmp 38), type := 4, pos := "laws.go:85", after := #[{ on := 10, ground := Ground.data }, { on := 8, ground := Ground.chain }], guard := none }) (v := ?vb11) rfl (by kernel_rfl) (by kernel_rfl) (by kernel_rfl) (fun _ _ _ h => h) (Or.inl ⟨by rfl, ?hyb11⟩) (by assumption) ?restb11
      case hyb11 =>
        intro w hSw
        (try dsimp only at hSw)
        go_simp
        try with_reducible rfl
      try simp only [Act.put, List.setIfInBounds_toArray, List.set_cons_zero, List.set_cons_succ]
      refine wpAnyH_take (i := 12) (oi := { dst := some 40, op := Op.move (Operand.tmp 6), type := 9, pos := "laws.go:85", after := #[{ on := 11, ground := Ground.guard }], guard := some (11, true) }) (v := ?vb12) rfl (by kernel_rfl) (by kernel_rfl) (by kernel_rfl) (fun _ _ _ h => h) (Or.inl ⟨by rfl, ?hyb12⟩) (by assumption) ?restb12
      case hyb12 =>
        intro w hSw
        (try dsimp only at hSw)
        go_simp
        try with_reducible rfl
      try simp only [Act.put, List.setIfInBounds_toArray, List.set_cons_zero, List.set_cons_succ]
      refine wpAnyH_take (i := 13) (oi := { dst := some 41, op := Op.binOp BinOp.eql 9 (Operand.tmp 40) (Operand.const (Value.string { data := #[] })) 9, type := 4, pos := "laws.go:85", after := #[{ on := 12, ground := Ground.data }, { on := 11, ground := Ground.guard }], guard := some (11, true) }) (v := ?vb13) rfl (by kernel_rfl) (by kernel_rfl) (by kernel_rfl) (fun _ _ _ h => h) (Or.inl ⟨by rfl, ?hyb13⟩) (by assumption) ?restb13
      case hyb13 =>
        intro w hSw
        (try dsimp only at hSw)
        go_simp
        try with_reducible rfl
      try simp only [Act.put, List.setIfInBounds_toArray, List.set_cons_zero, List.set_cons_succ]
      refine wpAnyH_take (i := 14) (oi := { dst := some 42, op := Op.move (Operand.tmp 41), type := 4, pos := "laws.go:85", after := #[{ on := 13, ground := Ground.data }, { on := 11, ground := Ground.chain }, { on := 11, ground := Ground.guard }], guard := some (11, true) }) (v := ?vb14) rfl (by kernel_rfl) (by kernel_rfl) (by kernel_rfl) (fun _ _ _ h => h) (Or.inl ⟨by rfl, ?hyb14⟩) (by assumption) ?restb14
      case hyb14 =>
        intro w hSw
        (try dsimp only at hSw)
        go_simp
        try with_reducible rfl
      try simp only [Act.put, List.setIfInBounds_toArray, List.set_cons_zero, List.set_cons_succ]
      refine wpAnyH_take (i := 15) (oi := { dst := some 43, op := Op.move (Operand.tmp 6), type := 9, pos := "laws.go:85", after := #[{ on := 14, ground := Ground.guard }], guard := some (14, false) }) (v := undef) rfl (by kernel_rfl) (by kernel_rfl) (by kernel_rfl) (fun _ _ _ h => h) (Or.inr ⟨by rfl, rfl⟩) (by assumption) ?_
      try simp only [Act.put, List.setIfInBounds_toArray, List.set_cons_zero, List.set_cons_succ]
      refine wpAnyH_take (i := 16) (oi := { dst := some 44, op := Op.call { callee := Callee.value (Operand.func 17), args := #[Operand.tmp 43], argTypes := #[9] }, type := 39, pos := "laws.go:85", after := #[{ on := 15, ground := Ground.data }, { on := 14, ground := Ground.chain }, { on := 14, ground := Ground.guard }], guard := some (14, false) }) (v := undef) rfl (by kernel_rfl) (by kernel_rfl) (by kernel_rfl) (fun _ _ _ h => h) (Or.inr ⟨by rfl, rfl⟩) (by assumption) ?_
      try simp only [Act.put, List.setIfInBounds_toArray, List.set_cons_zero, List.set_cons_succ]
      refine wpAnyH_take (i := 17) (oi := { dst := some 45, op := Op.load 35 (Operand.tmp 5), type := 35, pos := "laws.go:85", after := #[{ on := 14, ground := Ground.guard }], guard := some (14, false) }) (v := undef) rfl (by kernel_rfl) (by kernel_rfl) (by kernel_rfl) (fun _ _ _ h => h) (Or.inr ⟨by rfl, rfl⟩) (by assumption) ?_
      try simp only [Act.put, List.setIfInBounds_toArray, List.set_cons_zero, List.set_cons_succ]
      refine wpAnyH_take (i := 18) (oi := { dst := some 46, op := Op.build 39 #[(0, Operand.tmp 45)], type := 39, pos := "laws.go:85", after := #[{ on := 17, ground := Ground.data }, { on := 14, ground := Ground.guard }], guard := some (14, false) }) (v := undef) rfl (by kernel_rfl) (by kernel_rfl) (by kernel_rfl) (fun _ _ _ h => h) (Or.inr ⟨by rfl, rfl⟩) (by assumption) ?_
      try simp only [Act.put, List.setIfInBounds_toArray, List.set_cons_zero, List.set_cons_succ]
      refine wpAnyH_take (i := 19) (oi := { dst := some 47, op := Op.binOp BinOp.eql 39 (Operand.tmp 44) (Operand.tmp 46) 39, type := 4, pos := "laws.go:85", after := #[{ on := 16, ground := Ground.data }, { on := 18, ground := Ground.data }, { on := 14, ground := Ground.guard }], guard := some (14, false) }) (v := undef) rfl (by kernel_rfl) (by kernel_rfl) (by kernel_rfl) (fun _ _ _ h => h) (Or.inr ⟨by rfl, rfl⟩) (by assumption) ?_
      try simp only [Act.put, List.setIfInBounds_toArray, List.set_cons_zero, List.set_cons_succ]
      refine wpAnyH_take (i := 20) (oi := { dst := some 48, op := Op.pick (Operand.tmp 42) (Operand.const (Value.bool true)) (Operand.tmp 47), type := 4, pos := "laws.go:85", after := #[{ on := 14, ground := Ground.data }, { on := 19, ground := Ground.data }, { on := 11, ground := Ground.guard }], guard := some (11, true) }) (v := ?vb20) rfl (by kernel_rfl) (by kernel_rfl) (by kernel_rfl) (fun _ _ _ h => h) (Or.inl ⟨by rfl, ?hyb20⟩) (by assumption) ?restb20
      case hyb20 =>
        intro w hSw
        (try dsimp only at hSw)
        go_simp
        try with_reducible rfl
      try simp only [Act.put, List.setIfInBounds_toArray, List.set_cons_zero, List.set_cons_succ]
      refine wpAnyH_take (i := 21) (oi := { dst := some 49, op := Op.pick (Operand.tmp 39) (Operand.tmp 48) (Operand.const (Value.bool false)), type := 4, pos := "laws.go:85", after := #[{ on := 11, ground := Ground.data }, { on := 20, ground := Ground.data }], guard := none }) (v := ?vb21) rfl (by kernel_rfl) (by kernel_rfl) (by kernel_rfl) (fun _ _ _ h => h) (Or.inl ⟨by rfl, ?hyb21⟩) (by assumption) ?restb21
      case hyb21 =>
        intro w hSw
        (try dsimp only at hSw)
        go_simp
        try with_reducible rfl
      try simp only [Act.put, List.setIfInBounds_toArray, List.set_cons_zero, List.set_cons_succ]
      refine wpAnyH_take (i := 22) (oi := { dst := some 50, op := Op.move (Operand.tmp 49), type := 4, pos := "laws.go:85", after := #[{ on := 21, ground := Ground.data }, { on := 16, ground := Ground.chain }], guard := none }) (v := ?vb22) rfl (by kernel_rfl) (by kernel_rfl) (by kernel_rfl) (fun _ _ _ h => h) (Or.inl ⟨by rfl, ?hyb22⟩) (by assumption) ?restb22
      case hyb22 =>
        intro w hSw
        (try dsimp only at hSw)
        go_simp
        try with_reducible rfl
      try simp only [Act.put, List.setIfInBounds_toArray, List.set_cons_zero, List.set_cons_succ]
      refine wpAnyH_take (i := 23) (oi := { dst := some 51, op := Op.load 39 (Operand.tmp 8), type := 39, pos := "laws.go:85", after := #[{ on := 22, ground := Ground.guard }], guard := some (22, true) }) (v := ?vb23) rfl (by kernel_rfl) (by kernel_rfl) (by kernel_rfl) (fun _ _ _ h => h) (Or.inl ⟨by rfl, ?hyb23⟩) (by assumption) ?restb23
      case hyb23 =>
        intro w hSw
        (try dsimp only at hSw)
        go_simp
        try with_reducible rfl
      try simp only [Act.put, List.setIfInBounds_toArray, List.set_cons_zero, List.set_cons_succ]
      refine wpAnyH_take (i := 24) (oi := { dst := some 52, op := Op.move (Operand.tmp 7), type := 9, pos := "laws.go:85", after := #[{ on := 22, ground := Ground.guard }], guard := some (22, true) }) (v := ?vb24) rfl (by kernel_rfl) (by kernel_rfl) (by kernel_rfl) (fun _ _ _ h => h) (Or.inl ⟨by rfl, ?hyb24⟩) (by assumption) ?restb24
      case hyb24 =>
        intro w hSw
        (try dsimp only at hSw)
        go_simp
        try with_reducible rfl
      try simp only [Act.put, List.setIfInBounds_toArray, List.set_cons_zero, List.set_cons_succ]
      refine wpAnyH_ready (rs := [25]) (by kernel_rfl) (by simp) ?_
      refine AllReadyH.cons (o := { dst := some 53, op := Op.call { callee := Callee.value (Operand.func 22), args := #[Operand.tmp 52], argTypes := #[9] }, type := 39, pos := "laws.go:85", after := #[{ on := 24, ground := Ground.data }, { on := 22, ground := Ground.chain }, { on := 22, ground := Ground.guard }], guard := some (22, true) }) rfl (fun K hK => ?_) AllReadyH.nil
      go_simp
      (go_at_call 22; refine (K5.out _).mono ?_; rintro e wE ⟨rfl, hbE⟩; have TE := N9.below (n := w4.heap.size + 1) (b := w1.heap.size) (c := w4.heap.size) (sc := sc) (ho := ho) (pa := pa) (po := po) (xs := xs) (xh := xh) (xp := xp) (xo := xo) (xc := 0) (by unfold N9; go_keep) hbE; obtain ⟨zE, ⟨p0E, p1E, p2E, p3E⟩, q0E, q1E, q2E, q3E, q4E⟩ := TE; have BE : Hid (Below w.heap.size w wE) := BC.out.trans (hbE.mono BC.out.size))
      try (go_wp2_with fail)
      refine hK.out _ _ ?_ (fun hH4 => ?_)
      · (try dsimp only)
        go_keep
      clear hK K hH3
      try simp only [Act.put, List.setIfInBounds_toArray, List.set_cons_zero, List.set_cons_succ]
      refine wpAnyH_take (i := 26) (oi := { dst := some 54, op := Op.binOp BinOp.eql 39 (Operand.tmp 51) (Operand.tmp 53) 39, type := 4, pos := "laws.go:85", after := #[{ on := 23, ground := Ground.data }, { on := 25, ground := Ground.data }, { on := 22, ground := Ground.guard }], guard := some (22, true) }) (v := ?vb26) rfl (by kernel_rfl) (by kernel_rfl) (by kernel_rfl) (fun _ _ _ h => h) (Or.inl ⟨by rfl, ?hyb26⟩) (by assumption) ?restb26
      case hyb26 =>
        intro w hSw
        (try dsimp only at hSw)
        go_simp
        try with_reducible rfl
      try simp only [Act.put, List.setIfInBounds_toArray, List.set_cons_zero, List.set_cons_succ]
      refine wpAnyH_take (i := 27) (oi := { dst := some 55, op := Op.pick (Operand.tmp 50) (Operand.tmp 54) (Operand.const (Value.bool false)), type := 4, pos := "laws.go:85", after := #[{ on := 22, ground := Ground.data }, { on := 26, ground := Ground.data }], guard := none }) (v := ?vb27) rfl (by kernel_rfl) (by kernel_rfl) (by kernel_rfl) (fun _ _ _ h => h) (Or.inl ⟨by rfl, ?hyb27⟩) (by assumption) ?restb27
      case hyb27 =>
        intro w hSw
        (try dsimp only at hSw)
        go_simp
        try with_reducible rfl
      try simp only [Act.put, List.setIfInBounds_toArray, List.set_cons_zero, List.set_cons_succ]
      refine wpAnyH_take (i := 28) (oi := { dst := some 56, op := Op.move (Operand.tmp 55), type := 4, pos := "laws.go:85", after := #[{ on := 27, ground := Ground.data }, { on := 25, ground := Ground.chain }], guard := none }) (v := ?vb28) rfl (by kernel_rfl) (by kernel_rfl) (by kernel_rfl) (fun _ _ _ h => h) (Or.inl ⟨by rfl, ?hyb28⟩) (by assumption) ?restb28
      case hyb28 =>
        intro w hSw
        (try dsimp only at hSw)
        go_simp
        try with_reducible rfl
      try simp only [Act.put, List.setIfInBounds_toArray, List.set_cons_zero, List.set_cons_succ]
      refine wpAnyH_take (i := 29) (oi := { dst := some 57, op := Op.fieldAddr 39 (Operand.tmp 8) 1, type := 0, pos := "laws.go:85", after := #[{ on := 28, ground := Ground.guard }], guard := some (28, true) }) (v := ?vb29) rfl (by kernel_rfl) (by kernel_rfl) (by kernel_rfl) (fun _ _ _ h => h) (Or.inl ⟨by rfl, ?hyb29⟩) (by assumption) ?restb29
      case hyb29 =>
        intro w hSw
        (try dsimp only at hSw)
        go_simp
        try with_reducible rfl
      try simp only [Act.put, List.setIfInBounds_toArray, List.set_cons_zero, List.set_cons_succ]
      refine wpAnyH_take (i := 30) (oi := { dst := some 58, op := Op.load 2 (Operand.tmp 57), type := 2, pos := "laws.go:85", after := #[{ on := 29, ground := Ground.data }, { on := 28, ground := Ground.guard }], guard := some (28, true) }) (v := ?vb30) rfl (by kernel_rfl) (by kernel_rfl) (by kernel_rfl) (fun _ _ _ h => h) (Or.inl ⟨by rfl, ?hyb30⟩) (by assumption) ?restb30
      case hyb30 =>
        intro w hSw
        (try dsimp only at hSw)
        go_simp
        try with_reducible rfl
      try simp only [Act.put, List.setIfInBounds_toArray, List.set_cons_zero, List.set_cons_succ]
      refine wpAnyH_take (i := 31) (oi := { dst := some 59, op := Op.binOp BinOp.neq 2 (Operand.tmp 58) (Operand.const (Value.int IntKind.i64 0)) 2, type := 4, pos := "laws.go:85", after := #[{ on := 30, ground := Ground.data }, { on := 28, ground := Ground.guard }], guard := some (28, true) }) (v := ?vb31) rfl (by kernel_rfl) (by kernel_rfl) (by kernel_rfl) (fun _ _ _ h => h) (Or.inl ⟨by rfl, ?hyb31⟩) (by assumption) ?restb31
      case hyb31 =>
        intro w hSw
        (try dsimp only at hSw)
        go_simp
        try with_reducible rfl
      try simp only [Act.put, List.setIfInBounds_toArray, List.set_cons_zero, List.set_cons_succ]
      refine wpAnyH_take (i := 32) (oi := { dst := some 60, op := Op.move (Operand.tmp 59), type := 4, pos := "laws.go:85", after := #[{ on := 31, ground := Ground.data }, { on := 28, ground := Ground.chain }, { on := 28, ground := Ground.guard }], guard := some (28, true) }) (v := ?vb32) rfl (by kernel_rfl) (by kernel_rfl) (by kernel_rfl) (fun _ _ _ h => h) (Or.inl ⟨by rfl, ?hyb32⟩) (by assumption) ?restb32
      case hyb32 =>
        intro w hSw
        (try dsimp only at hSw)
        go_simp
        try with_reducible rfl
      try simp only [Act.put, List.setIfInBounds_toArray, List.set_cons_zero, List.set_cons_succ]
      refine wpAnyH_take (i := 33) (oi := { dst := some 61, op := Op.fieldAddr 39 (Operand.tmp 8) 0, type := 0, pos := "laws.go:85", after := #[{ on := 32, ground := Ground.guard }], guard := some (32, false) }) (v := ?vb33) rfl (by kernel_rfl) (by kernel_rfl) (by kernel_rfl) (fun _ _ _ h => h) (Or.inl ⟨by rfl, ?hyb33⟩) (by assumption) ?restb33
      case hyb33 =>
        intro w hSw
        (try dsimp only at hSw)
        go_simp
        try with_reducible rfl
      try simp only [Act.put, List.setIfInBounds_toArray, List.set_cons_zero, List.set_cons_succ]
      refine wpAnyH_take (i := 34) (oi := { dst := some 62, op := Op.load 35 (Operand.tmp 61), type := 35, pos := "laws.go:85", after := #[{ on := 33, ground := Ground.data }, { on := 32, ground := Ground.guard }], guard := some (32, false) }) (v := ?vb34) rfl (by kernel_rfl) (by kernel_rfl) (by kernel_rfl) (fun _ _ _ h => h) (Or.inl ⟨by rfl, ?hyb34⟩) (by assumption) ?restb34
      case hyb34 =>
        intro w hSw
        (try dsimp only at hSw)
        go_simp
        try with_reducible rfl
      try simp only [Act.put, List.setIfInBounds_toArray, List.set_cons_zero, List.set_cons_succ]
      refine wpAnyH_take (i := 36) (oi := { dst := some 64, op := Op.move (Operand.tmp 7), type := 9, pos := "laws.go:85", after := #[{ on := 32, ground := Ground.guard }], guard := some (32, false) }) (v := ?vb36) rfl (by kernel_rfl) (by kernel_rfl) (by kernel_rfl) (fun _ _ _ h => h) (Or.inl ⟨by rfl, ?hyb36⟩) (by assumption) ?restb36
      case hyb36 =>
        intro w hSw
        (try dsimp only at hSw)
        go_simp
        try with_reducible rfl
      try simp only [Act.put, List.setIfInBounds_toArray, List.set_cons_zero, List.set_cons_succ]
      refine wpAnyH_ready (rs := [35]) (by kernel_rfl) (by simp) ?_
      refine AllReadyH.cons (o := { dst := some 63, op := Op.call { callee := Callee.value (Operand.func 15), args := #[Operand.tmp 62], argTypes := #[35] }, type := 9, pos := "laws.go:85", after := #[{ on := 34, ground := Ground.data }, { on := 32, ground := Ground.chain }, { on := 32, ground := Ground.guard }], guard := some (32, false) }) rfl (fun K hK => ?_) AllReadyH.nil
      go_simp
      (go_at_call 15; refine (K6.out _ BE.out).mono ?_; rintro e wF ⟨rfl, hbF⟩; have TF := N9.below (n := w4.heap.size + 1) (b := w1.heap.size) (c := w4.heap.size) (sc := sc) (ho := ho) (pa := pa) (po := po) (xs := xs) (xh := xh) (xp := xp) (xo := xo) (xc := 0) (by unfold N9; go_keep) hbF; obtain ⟨zF, ⟨p0F, p1F, p2F, p3F⟩, q0F, q1F, q2F, q3F, q4F⟩ := TF; have BF : Hid (Below w.heap.size w wF) := BE.out.trans (hbF.mono BE.out.size))
      try (go_wp2_with fail)
      refine hK.out _ _ ?_ (fun hH5 => ?_)
      · (try dsimp only)
        go_keep
      clear hK K hH4
      try simp only [Act.put, List.setIfInBounds_toArray, List.set_cons_zero, List.set_cons_succ]
      refine wpAnyH_take (i := 37) (oi := { dst := some 65, op := Op.binOp BinOp.eql 9 (Operand.tmp 63) (Operand.tmp 64) 9, type := 4, pos := "laws.go:85", after := #[{ on := 35, ground := Ground.data }, { on := 36, ground := Ground.data }, { on := 32, ground := Ground.guard }], guard := some (32, false) }) (v := ?vb37) rfl (by kernel_rfl) (by kernel_rfl) (by kernel_rfl) (fun _ _ _ h => h) (Or.inl ⟨by rfl, ?hyb37⟩) (by assumption) ?restb37
      case hyb37 =>
        intro w hSw
        (try dsimp only at hSw)
        go_simp
        try with_reducible rfl
      try simp only [Act.put, List.setIfInBounds_toArray, List.set_cons_zero, List.set_cons_succ]
      refine wpAnyH_take (i := 38) (oi := { dst := some 66, op := Op.pick (Operand.tmp 60) (Operand.const (Value.bool true)) (Operand.tmp 65), type := 4, pos := "laws.go:85", after := #[{ on := 32, ground := Ground.data }, { on := 37, ground := Ground.data }, { on := 28, ground := Ground.guard }], guard := some (28, true) }) (v := ?vb38) rfl (by kernel_rfl) (by kernel_rfl) (by kernel_rfl) (fun _ _ _ h => h) (Or.inl ⟨by rfl, ?hyb38⟩) (by assumption) ?restb38
      case hyb38 =>
        intro w hSw
        (try dsimp only at hSw)
        go_simp
        try with_reducible rfl
      try simp only [Act.put, List.setIfInBounds_toArray, List.set_cons_zero, List.set_cons_succ]
      refine wpAnyH_take (i := 39) (oi := { dst := some 67, op := Op.pick (Operand.tmp 56) (Operand.tmp 66) (Operand.const (Value.bool false)), type := 4, pos := "laws.go:85", after := #[{ on := 28, ground := Ground.data }, { on := 38, ground := Ground.data }], guard := none }) (v := ?vb39) rfl (by kernel_rfl) (by kernel_rfl) (by kernel_rfl) (fun _ _ _ h => h) (Or.inl ⟨by rfl, ?hyb39⟩) (by assumption) ?restb39
      case hyb39 =>
        intro w hSw
        (try dsimp only at hSw)
        go_simp
        try with_reducible rfl
      try simp only [Act.put, List.setIfInBounds_toArray, List.set_cons_zero, List.set_cons_succ]
      refine wpAnyH_take (i := 40) (oi := { dst := some 68, op := Op.move (Operand.tmp 67), type := 4, pos := "laws.go:85", after := #[{ on := 39, ground := Ground.data }, { on := 35, ground := Ground.chain }], guard := none }) (v := ?vb40) rfl (by kernel_rfl) (by kernel_rfl) (by kernel_rfl) (fun _ _ _ h => h) (Or.inl ⟨by rfl, ?hyb40⟩) (by assumption) ?restb40
      case hyb40 =>
        intro w hSw
        (try dsimp only at hSw)
        go_simp
        try with_reducible rfl
      try simp only [Act.put, List.setIfInBounds_toArray, List.set_cons_zero, List.set_cons_succ]
      refine wpAnyH_take (i := 41) (oi := { dst := some 69, op := Op.move (Operand.tmp 9), type := 9, pos := "laws.go:85", after := #[{ on := 40, ground := Ground.guard }], guard := some (40, true) }) (v := ?vb41) rfl (by kernel_rfl) (by kernel_rfl) (by kernel_rfl) (fun _ _ _ h => h) (Or.inl ⟨by rfl, ?hyb41⟩) (by assumption) ?restb41
      case hyb41 =>
        intro w hSw
        (try dsimp only at hSw)
        go_simp
        try with_reducible rfl
      try simp only [Act.put, List.setIfInBounds_toArray, List.set_cons_zero, List.set_cons_succ]
      refine wpAnyH_take (i := 43) (oi := { dst := some 71, op := Op.move (Operand.tmp 9), type := 9, pos := "laws.go:85", after := #[{ on := 40, ground := Ground.guard }], guard := some (40, true) }) (v := ?vb43) rfl (by kernel_rfl) (by kernel_rfl) (by kernel_rfl) (fun _ _ _ h => h) (Or.inl ⟨by rfl, ?hyb43⟩) (by assumption) ?restb43
      case hyb43 =>
        intro w hSw
        (try dsimp only at hSw)
        go_simp
        try with_reducible rfl
      try simp only [Act.put, List.setIfInBounds_toArray, List.set_cons_zero, List.set_cons_succ]
      refine wpAnyH_ready (rs := [42]) (by kernel_rfl) (by simp) ?_
      refine AllReadyH.cons (o := { dst := some 70, op := Op.call { callee := Callee.value (Operand.func 24), args := #[Operand.tmp 69], argTypes := #[9] }, type := 43, pos := "laws.go:85", after := #[{ on := 41, ground := Ground.data }, { on := 40, ground := Ground.chain }, { on := 40, ground := Ground.guard }], guard := some (40, true) }) rfl (fun K hK => ?_) AllReadyH.nil
      go_simp
      (go_at_call 24; refine (K7.out _ BF.out).mono ?_; rintro e wG ⟨vG, rfl, slG, hbG⟩; have TG := N9.below (n := w4.heap.size + 1) (b := w1.heap.size) (c := w4.heap.size) (sc := sc) (ho := ho) (pa := pa) (po := po) (xs := xs) (xh := xh) (xp := xp) (xo := xo) (xc := 0) (by unfold N9; go_keep) hbG; obtain ⟨zG, ⟨p0G, p1G, p2G, p3G⟩, q0G, q1G, q2G, q3G, q4G⟩ := TG; have BG : Hid (Below w.heap.size w wG) := BF.out.trans (hbG.mono BF.out.size))
      try (go_wp2_with fail)
      refine hK.out _ _ ?_ (fun hH6 => ?_)
      · (try dsimp only)
        go_keep
      clear hK K hH5
      try simp only [Act.put, List.setIfInBounds_toArray, List.set_cons_zero, List.set_cons_succ]
      refine wpAnyH_ready (rs := [44]) (by kernel_rfl) (by simp) ?_
      refine AllReadyH.cons (o := { dst := some 72, op := Op.call { callee := Callee.value (Operand.func 25), args := #[Operand.tmp 71], argTypes := #[9] }, type := 43, pos := "laws.go:85", after := #[{ on := 43, ground := Ground.data }, { on := 42, ground := Ground.chain }, { on := 40, ground := Ground.guard }], guard := some (40, true) }) rfl (fun K hK => ?_) AllReadyH.nil
      go_simp
      (go_at_call 25; refine (K8.out _).mono ?_; rintro e wH ⟨vH, rfl, slH, hbH⟩; have TH := N9.below (n := w4.heap.size + 1) (b := w1.heap.size) (c := w4.heap.size) (sc := sc) (ho := ho) (pa := pa) (po := po) (xs := xs) (xh := xh) (xp := xp) (xo := xo) (xc := 0) (by unfold N9; go_keep) hbH; obtain ⟨zH, ⟨p0H, p1H, p2H, p3H⟩, q0H, q1H, q2H, q3H, q4H⟩ := TH; have BH : Hid (Below w.heap.size w wH) := BG.out.trans (hbH.mono BG.out.size))
      try (go_wp2_with fail)
      refine hK.out _ _ ?_ (fun hH7 => ?_)
      · (try dsimp only)
        go_keep
      clear hK K hH6
      try simp only [Act.put, List.setIfInBounds_toArray, List.set_cons_zero, List.set_cons_succ]
      refine wpAnyH_ready (rs := [45]) (by kernel_rfl) (by simp) ?_
      refine AllReadyH.cons (o := { dst := some 73, op := Op.call { callee := Callee.value (Operand.func 23), args := #[Operand.tmp 70, Operand.tmp 72], argTypes := #[43, 43] }, type := 4, pos := "laws.go:85", after := #[{ on := 42, ground := Ground.data }, { on := 44, ground := Ground.data }, { on := 44, ground := Ground.chain }, { on := 40, ground := Ground.guard }], guard := some (40, true) }) rfl (fun K hK => ?_) AllReadyH.nil
      go_simp
      (go_at_call 23; refine (lwTexts_any _ _ _ _ _ _ _ (slG.below hbH) slH hn).mono ?_; rintro e wI ⟨rfl, hbI⟩; have TI := N9.below (n := w4.heap.size + 1) (b := w1.heap.size) (c := w4.heap.size) (sc := sc) (ho := ho) (pa := pa) (po := po) (xs := xs) (xh := xh) (xp := xp) (xo := xo) (xc := 0) (by unfold N9; go_keep) hbI; obtain ⟨zI, ⟨p0I, p1I, p2I, p3I⟩, q0I, q1I, q2I, q3I, q4I⟩ := TI; have BI : Hid (Below w.heap.size w wI) := BH.out.trans (hbI.mono BH.out.size))
      try (go_wp2_with fail)
      refine hK.out _ _ ?_ (fun hH8 => ?_)
      · (try dsimp only)
        go_keep
      clear hK K hH7
      try simp only [Act.put, List.setIfInBounds_toArray, List.set_cons_zero, List.set_cons_succ]
      refine wpAnyH_take (i := 46) (oi := { dst := some 74, op := Op.pick (Operand.tmp 68) (Operand.tmp 73) (Operand.const (Value.bool false)), type := 4, pos := "laws.go:85", after := #[{ on := 40, ground := Ground.data }, { on := 45, ground := Ground.data }], guard := none }) (v := ?vb46) rfl (by kernel_rfl) (by kernel_rfl) (by kernel_rfl) (fun _ _ _ h => h) (Or.inl ⟨by rfl, ?hyb46⟩) (by assumption) ?restb46
      case hyb46 =>
        intro w hSw
        (try dsimp only at hSw)
        go_simp
        try with_reducible rfl
      try simp only [Act.put, List.setIfInBounds_toArray, List.set_cons_zero, List.set_cons_succ]
      refine wpAnyH_take (i := 47) (oi := { dst := some 75, op := Op.move (Operand.tmp 74), type := 4, pos := "laws.go:85", after := #[{ on := 46, ground := Ground.data }, { on := 45, ground := Ground.chain }], guard := none }) (v := ?vb47) rfl (by kernel_rfl) (by kernel_rfl) (by kernel_rfl) (fun _ _ _ h => h) (Or.inl ⟨by rfl, ?hyb47⟩) (by assumption) ?restb47
      case hyb47 =>
        intro w hSw
        (try dsimp only at hSw)
        go_simp
        try with_reducible rfl
      try simp only [Act.put, List.setIfInBounds_toArray, List.set_cons_zero, List.set_cons_succ]
      refine wpAnyH_take (i := 48) (oi := { dst := some 76, op := Op.move (Operand.tmp 9), type := 9, pos := "laws.go:85", after := #[{ on := 47, ground := Ground.guard }], guard := some (47, true) }) (v := ?vb48) rfl (by kernel_rfl) (by kernel_rfl) (by kernel_rfl) (fun _ _ _ h => h) (Or.inl ⟨by rfl, ?hyb48⟩) (by assumption) ?restb48
      case hyb48 =>
        intro w hSw
        (try dsimp only at hSw)
        go_simp
        try with_reducible rfl
      try simp only [Act.put, List.setIfInBounds_toArray, List.set_cons_zero, List.set_cons_succ]
      refine wpAnyH_take (i := 50) (oi := { dst := some 78, op := Op.move (Operand.tmp 9), type := 9, pos := "laws.go:85", after := #[{ on := 47, ground := Ground.guard }], guard := some (47, true) }) (v := ?vb50) rfl (by kernel_rfl) (by kernel_rfl) (by kernel_rfl) (fun _ _ _ h => h) (Or.inl ⟨by rfl, ?hyb50⟩) (by assumption) ?restb50
      case hyb50 =>
        intro w hSw
        (try dsimp only at hSw)
        go_simp
        try with_reducible rfl
      try simp only [Act.put, List.setIfInBounds_toArray, List.set_cons_zero, List.set_cons_succ]
      refine wpAnyH_ready (rs := [49]) (by kernel_rfl) (by simp) ?_
      refine AllReadyH.cons (o := { dst := some 77, op := Op.call { callee := Callee.value (Operand.func 26), args := #[Operand.tmp 76], argTypes := #[9] }, type := 4, pos := "laws.go:85", after := #[{ on := 48, ground := Ground.data }, { on := 47, ground := Ground.chain }, { on := 47, ground := Ground.guard }], guard := some (47, true) }) rfl (fun K hK => ?_) AllReadyH.nil
      go_simp
      (go_at_call 26; refine (K10.out _ BI.out).mono ?_; rintro e wJ ⟨rfl, hbJ⟩; have TJ := N9.below (n := w4.heap.size + 1) (b := w1.heap.size) (c := w4.heap.size) (sc := sc) (ho := ho) (pa := pa) (po := po) (xs := xs) (xh := xh) (xp := xp) (xo := xo) (xc := 0) (by unfold N9; go_keep) hbJ; obtain ⟨zJ, ⟨p0J, p1J, p2J, p3J⟩, q0J, q1J, q2J, q3J, q4J⟩ := TJ; have BJ : Hid (Below w.heap.size w wJ) := BI.out.trans (hbJ.mono BI.out.size))
      try (go_wp2_with fail)
      refine hK.out _ _ ?_ (fun hH9 => ?_)
      · (try dsimp only)
        go_keep
      clear hK K hH8
      try simp only [Act.put, List.setIfInBounds_toArray, List.set_cons_zero, List.set_cons_succ]
      refine wpAnyH_ready (rs := [51]) (by kernel_rfl) (by simp) ?_
      refine AllReadyH.cons (o := { dst := some 79, op := Op.call { callee := Callee.value (Operand.func 27), args := #[Operand.tmp 78], argTypes := #[9] }, type := 4, pos := "laws.go:85", after := #[{ on := 50, ground := Ground.data }, { on := 49, ground := Ground.chain }, { on := 47, ground := Ground.guard }], guard := some (47, true) }) rfl (fun K hK => ?_) AllReadyH.nil
      go_simp
      (go_at_call 27; refine (K11.out _).mono ?_; rintro e wK ⟨rfl, hbK⟩; have TK := N9.below (n := w4.heap.size + 1) (b := w1.heap.size) (c := w4.heap.size) (sc := sc) (ho := ho) (pa := pa) (po := po) (xs := xs) (xh := xh) (xp := xp) (xo := xo) (xc := 0) (by unfold N9; go_keep) hbK; obtain ⟨zK, ⟨p0K, p1K, p2K, p3K⟩, q0K, q1K, q2K, q3K, q4K⟩ := TK; have BK : Hid (Below w.heap.size w wK) := BJ.out.trans (hbK.mono BJ.out.size))
      try (go_wp2_with fail)
      refine hK.out _ _ ?_ (fun hH10 => ?_)
      · (try dsimp only)
        go_keep
      clear hK K hH9
      try simp only [Act.put, List.setIfInBounds_toArray, List.set_cons_zero, List.set_cons_succ]
      refine wpAnyH_take (i := 52) (oi := { dst := some 80, op := Op.binOp BinOp.eql 4 (Operand.tmp 77) (Operand.tmp 79) 4, type := 4, pos := "laws.go:85", after := #[{ on := 49, ground := Ground.data }, { on := 51, ground := Ground.data }, { on := 47, ground := Ground.guard }], guard := some (47, true) }) (v := ?vb52) rfl (by kernel_rfl) (by kernel_rfl) (by kernel_rfl) (fun _ _ _ h => h) (Or.inl ⟨by rfl, ?hyb52⟩) (by assumption) ?restb52
      case hyb52 =>
        intro w hSw
        (try dsimp only at hSw)
        go_simp
        try with_reducible rfl
      try simp only [Act.put, List.setIfInBounds_toArray, List.set_cons_zero, List.set_cons_succ]
      refine wpAnyH_take (i := 53) (oi := { dst := some 81, op := Op.pick (Operand.tmp 75) (Operand.tmp 80) (Operand.const (Value.bool false)), type := 4, pos := "laws.go:85", after := #[{ on := 47, ground := Ground.data }, { on := 52, ground := Ground.data }], guard := none }) (v := ?vb53) rfl (by kernel_rfl) (by kernel_rfl) (by kernel_rfl) (fun _ _ _ h => h) (Or.inl ⟨by rfl, ?hyb53⟩) (by assumption) ?restb53
      case hyb53 =>
        intro w hSw
        (try dsimp only at hSw)
        go_simp
        try with_reducible rfl
      try simp only [Act.put, List.setIfInBounds_toArray, List.set_cons_zero, List.set_cons_succ]
      refine wpAnyH_take (i := 54) (oi := { dst := some 4, op := Op.assign (Operand.tmp 81), type := 4, pos := "laws.go:85", after := #[{ on := 53, ground := Ground.data }, { on := 51, ground := Ground.chain }, { on := 0, ground := Ground.phase }, { on := 1, ground := Ground.phase }, { on := 2, ground := Ground.phase }, { on := 3, ground := Ground.phase }, { on := 4, ground := Ground.phase }, { on := 5, ground := Ground.phase }, { on := 6, ground := Ground.phase }, { on := 7, ground := Ground.phase }, { on := 8, ground := Ground.phase }, { on := 9, ground := Ground.phase }, { on := 10, ground := Ground.phase }, { on := 11, ground := Ground.phase }, { on := 12, ground := Ground.phase }, { on := 13, ground := Ground.phase }, { on := 14, ground := Ground.phase }, { on := 15, ground := Ground.phase }, { on := 16, ground := Ground.phase }, { on := 17, ground := Ground.phase }, { on := 18, ground := Ground.phase }, { on := 19, ground := Ground.phase }, { on := 20, ground := Ground.phase }, { on := 21, ground := Ground.phase }, { on := 22, ground := Ground.phase }, { on := 23, ground := Ground.phase }, { on := 24, ground := Ground.phase }, { on := 25, ground := Ground.phase }, { on := 26, ground := Ground.phase }, { on := 27, ground := Ground.phase }, { on := 28, ground := Ground.phase }, { on := 29, ground := Ground.phase }, { on := 30, ground := Ground.phase }, { on := 31, ground := Ground.phase }, { on := 32, ground := Ground.phase }, { on := 33, ground := Ground.phase }, { on := 34, ground := Ground.phase }, { on := 35, ground := Ground.phase }, { on := 36, ground := Ground.phase }, { on := 37, ground := Ground.phase }, { on := 38, ground := Ground.phase }, { on := 39, ground := Ground.phase }, { on := 40, ground := Ground.phase }, { on := 41, ground := Ground.phase }, { on := 42, ground := Ground.phase }, { on := 43, ground := Ground.phase }, { on := 44, ground := Ground.phase }, { on := 45, ground := Ground.phase }, { on := 46, ground := Ground.phase }, { on := 47, ground := Ground.phase }, { on := 48, ground := Ground.phase }, { on := 49, ground := Ground.phase }, { on := 50, ground := Ground.phase }, { on := 51, ground := Ground.phase }, { on := 52, ground := Ground.phase }, { on := 53, ground := Ground.phase }], guard := none }) (v := ?vb54) rfl (by kernel_rfl) (by kernel_rfl) (by kernel_rfl) (fun _ _ _ h => h) (Or.inl ⟨by rfl, ?hyb54⟩) (by assumption) ?restb54
      case hyb54 =>
        intro w hSw
        (try dsimp only at hSw)
        go_simp
        try with_reducible rfl
      try simp only [Act.put, List.setIfInBounds_toArray, List.set_cons_zero, List.set_cons_succ]
      refine wpAnyH_done (by kernel_rfl) ?_ _
      go_wp2
      go_ret
      exact ⟨rfl, BK.out⟩
  case inr =>
    rw [ev]
    unfold urlOut at ev ⊢
    go_wp2_with fail
    refine (drawLabelsOf_any a' len' cap' _ (R2.out.below (B4.out.alloc (by omega) _)) l2).mono ?_
    rintro e w5 ⟨⟨h, rfl, hh⟩, hb5⟩
    have M5 := (C4 xs xh xp xo xc).out w5 _ hb5
    have B5 : Hid (Below w.heap.size w w5) := (B4.out.alloc (by omega) _).trans (hb5.mono (by simp; omega))
    clear hb5 C4 B4 B2 B3 R1 R2
    go_wp2_with fail
    by_cases hu : urlB sc ho pa po = true
    case pos =>
      have K1 : Hid (∀ W, Calls Tryd.prog 19 #[.agg #[.string sc, .string ho, .int .i64 po, .string pa]] W fun e w' => e = .returned (.string (urlT sc ho pa po)) ∧ Below W.heap.size W w') := fun W => specUrlText_any sc ho pa po W
      have K2 : Hid (∀ W, Below w.heap.size w W → Calls Tryd.prog 20 #[.agg #[.string sc, .string ho, .int .i64 po, .string pa]] W fun e w' => e = .returned (.bool (urlB sc ho pa po)) ∧ Below W.heap.size W w') := fun W hb => HR.out sc ho pa po W hb (by omega)
      have K3 : Hid (∀ W, Calls Tryd.prog 21 #[.agg #[.string sc, .string ho, .int .i64 po, .string pa]] W fun e w' => e = .returned (.bool (urlB sc ho pa po)) ∧ Below W.heap.size W w') := fun W => specUrlRight_any sc ho pa po W
      have K5 : Hid (∀ W, Calls Tryd.prog 22 #[.string v] W fun e w' => e = .returned (.agg #[.string xs, .string xh, .int .i64 xo, .string xp, .int .i64 xc]) ∧ Below W.heap.size W w') := fun W => by have := specUrlRead_any v W; rw [ev] at this; exact this
      have K7 : Hid (∀ W, Below w.heap.size w W → Calls Tryd.prog 24 #[.string h] W fun e w' => ∃ v, e = .returned v ∧ SliceS w' W.heap.size v (labelsL h).length (atL (labelsL h)) ∧ Below W.heap.size W w') := fun W hb => HL.out h W hb (by omega)
      have K8 : Hid (∀ W, Calls Tryd.prog 25 #[.string h] W fun e w' => ∃ v, e = .returned v ∧ SliceS w' W.heap.size v (labelsL h).length (atL (labelsL h)) ∧ Below W.heap.size W w') := fun W => specLabelsOf_any h W
      have K10 : Hid (∀ W, Below w.heap.size w W → Calls Tryd.prog 26 #[.string h] W fun e w' => e = .returned (.bool (hostB h)) ∧ Below W.heap.size W w') := fun W hb => HH.out h W hb (by omega)
      have K11 : Hid (∀ W, Calls Tryd.prog 27 #[.string h] W fun e w' => e = .returned (.bool (hostB h)) ∧ Below W.heap.size W w') := fun W => specHost_any h W
      have hn : (labelsL h).length ≤ 1048576 := by have := labelsL_len h; omega
      have hxq : (xc != 0) = true := by rw [bne_iff_ne]; exact hxc
      have hemp : (urlT sc ho pa po).toList.isEmpty = false := by
        have := readOk_back hu
        unfold readOk at this
        rw [Bool.and_eq_true] at this
        simpa using this.1
      have hts : (urlT sc ho pa po).size ≤ 8000 := by
        obtain ⟨p1, p2, p3, p4, p5⟩ := urlB_parts hu
        have := placeT_size p1 p2 p3 p4
        rw [urlT, if_pos hu, ByteArray.size_append]; omega
      have K4 : Hid (∀ W, Below w.heap.size w W → Calls Tryd.prog 17 #[.string (urlT sc ho pa po)] W fun e w' => e = .returned (.agg #[.string sc, .string ho, .int .i64 po, .string pa, .int .i64 0]) ∧ Below W.heap.size W w') := fun W hb => by
        have := HD.out (urlT sc ho pa po) W hb (by omega)
        rw [readV, if_neg (by omega), if_pos (readOk_back hu), read_back sc ho pa po hu] at this
        exact this
      rw [hu] at K2 K3
      clear HT HR HD HL HH hu hts ev hxc
      generalize urlT sc ho pa po = t at *
      generalize (labelsL h).length = n at *
      generalize atL (labelsL h) = f at *
      generalize hostB h = hbool at *
      obtain ⟨z5, ⟨p0, p1, p2, p3⟩, r0, r1, r2, r3, r4⟩ := M5
      refine wp_region_held_drew (S := (fun w' => w4.heap.size + 1 ≤ w'.heap.size ∧ (w'.cell? ⟨w1.heap.size, 0, none⟩ = some (.string sc) ∧ w'.cell? ⟨w1.heap.size, 1, none⟩ = some (.string ho) ∧ w'.cell? ⟨w1.heap.size, 2, none⟩ = some (.int .i64 po) ∧ w'.cell? ⟨w1.heap.size, 3, none⟩ = some (.string pa)) ∧ (w'.cell? ⟨w4.heap.size, 0, none⟩ = some (.string xs) ∧ w'.cell? ⟨w4.heap.size, 1, none⟩ = some (.string xh) ∧ w'.cell? ⟨w4.heap.size, 2, none⟩ = some (.int .i64 xo) ∧ w'.cell? ⟨w4.heap.size, 3, none⟩ = some (.string xp) ∧ w'.cell? ⟨w4.heap.size, 4, none⟩ = some (.int .i64 xc)))) (by kernel_rfl) ?_ (fun hH0 => ?_)
      · (try dsimp only)
        go_keep
      refine wpAnyH_take (i := 0) (oi := { dst := some 28, op := Op.move (Operand.tmp 6), type := 9, pos := "laws.go:85", after := #[], guard := none }) (v := ?vc0) rfl (by kernel_rfl) (by kernel_rfl) (by kernel_rfl) (fun _ _ _ h => h) (Or.inl ⟨by rfl, ?hyc0⟩) (by assumption) ?restc0
      case hyc0 =>
        intro w hSw
        (try dsimp only at hSw)
        go_simp
        try with_reducible rfl
      try simp only [Act.put, List.setIfInBounds_toArray, List.set_cons_zero, List.set_cons_succ]
      refine wpAnyH_take (i := 1) (oi := { dst := some 29, op := Op.load 35 (Operand.tmp 5), type := 35, pos := "laws.go:85", after := #[], guard := none }) (v := ?vc1) rfl (by kernel_rfl) (by kernel_rfl) (by kernel_rfl) (fun _ _ _ h => h) (Or.inl ⟨by rfl, ?hyc1⟩) (by assumption) ?restc1
      case hyc1 =>
        intro w hSw
        (try dsimp only at hSw)
        go_simp
        try with_reducible rfl
      try simp only [Act.put, List.setIfInBounds_toArray, List.set_cons_zero, List.set_cons_succ]
      refine wpAnyH_ready (rs := [2]) (by kernel_rfl) (by simp) ?_
      refine AllReadyH.cons (o := { dst := some 30, op := Op.call { callee := Callee.value (Operand.func 19), args := #[Operand.tmp 29], argTypes := #[35] }, type := 9, pos := "laws.go:85", after := #[{ on := 1, ground := Ground.data }], guard := none }) rfl (fun K hK => ?_) AllReadyH.nil
      go_simp
      (go_at_call 19; refine (K1.out _).mono ?_; rintro e wA ⟨rfl, hbA⟩; have TA := N9.below (n := w4.heap.size + 1) (b := w1.heap.size) (c := w4.heap.size) (sc := sc) (ho := ho) (pa := pa) (po := po) (xs := xs) (xh := xh) (xp := xp) (xo := xo) (xc := xc) (by unfold N9; go_keep) hbA; obtain ⟨zA, ⟨p0A, p1A, p2A, p3A⟩, q0A, q1A, q2A, q3A, q4A⟩ := TA; have BA : Hid (Below w.heap.size w wA) := (B5.out.trans (Below.drew (Below.refl _ _))).trans (hbA.mono (by simp; omega)))
      try (go_wp2_with fail)
      refine hK.out _ _ ?_ (fun hH1 => ?_)
      · (try dsimp only)
        go_keep
      clear hK K hH0
      try simp only [Act.put, List.setIfInBounds_toArray, List.set_cons_zero, List.set_cons_succ]
      refine wpAnyH_take (i := 3) (oi := { dst := some 31, op := Op.binOp BinOp.eql 9 (Operand.tmp 28) (Operand.tmp 30) 9, type := 4, pos := "laws.go:85", after := #[{ on := 0, ground := Ground.data }, { on := 2, ground := Ground.data }], guard := none }) (v := ?vc3) rfl (by kernel_rfl) (by kernel_rfl) (by kernel_rfl) (fun _ _ _ h => h) (Or.inl ⟨by rfl, ?hyc3⟩) (by assumption) ?restc3
      case hyc3 =>
        intro w hSw
        (try dsimp only at hSw)
        go_simp
        try with_reducible rfl
      try simp only [Act.put, List.setIfInBounds_toArray, List.set_cons_zero, List.set_cons_succ]
      refine wpAnyH_take (i := 4) (oi := { dst := some 32, op := Op.move (Operand.tmp 31), type := 4, pos := "laws.go:85", after := #[{ on := 3, ground := Ground.data }, { on := 2, ground := Ground.chain }], guard := none }) (v := ?vc4) rfl (by kernel_rfl) (by kernel_rfl) (by kernel_rfl) (fun _ _ _ h => h) (Or.inl ⟨by rfl, ?hyc4⟩) (by assumption) ?restc4
      case hyc4 =>
        intro w hSw
        (try dsimp only at hSw)
        go_simp
        try with_reducible rfl
      try simp only [Act.put, List.setIfInBounds_toArray, List.set_cons_zero, List.set_cons_succ]
      refine wpAnyH_take (i := 5) (oi := { dst := some 33, op := Op.load 35 (Operand.tmp 5), type := 35, pos := "laws.go:85", after := #[{ on := 4, ground := Ground.guard }], guard := some (4, true) }) (v := ?vc5) rfl (by kernel_rfl) (by kernel_rfl) (by kernel_rfl) (fun _ _ _ h => h) (Or.inl ⟨by rfl, ?hyc5⟩) (by assumption) ?restc5
      case hyc5 =>
        intro w hSw
        (try dsimp only at hSw)
        go_simp
        try with_reducible rfl
      try simp only [Act.put, List.setIfInBounds_toArray, List.set_cons_zero, List.set_cons_succ]
      refine wpAnyH_take (i := 7) (oi := { dst := some 35, op := Op.load 35 (Operand.tmp 5), type := 35, pos := "laws.go:85", after := #[{ on := 4, ground := Ground.guard }], guard := some (4, true) }) (v := ?vc7) rfl (by kernel_rfl) (by kernel_rfl) (by kernel_rfl) (fun _ _ _ h => h) (Or.inl ⟨by rfl, ?hyc7⟩) (by assumption) ?restc7
      case hyc7 =>
        intro w hSw
        (try dsimp only at hSw)
        go_simp
        try with_reducible rfl
      try simp only [Act.put, List.setIfInBounds_toArray, List.set_cons_zero, List.set_cons_succ]
      refine wpAnyH_ready (rs := [6]) (by kernel_rfl) (by simp) ?_
      refine AllReadyH.cons (o := { dst := some 34, op := Op.call { callee := Callee.value (Operand.func 20), args := #[Operand.tmp 33], argTypes := #[35] }, type := 4, pos := "laws.go:85", after := #[{ on := 5, ground := Ground.data }, { on := 4, ground := Ground.chain }, { on := 4, ground := Ground.guard }], guard := some (4, true) }) rfl (fun K hK => ?_) AllReadyH.nil
      go_simp
      (go_at_call 20; refine (K2.out _ BA.out).mono ?_; rintro e wB ⟨rfl, hbB⟩; have TB := N9.below (n := w4.heap.size + 1) (b := w1.heap.size) (c := w4.heap.size) (sc := sc) (ho := ho) (pa := pa) (po := po) (xs := xs) (xh := xh) (xp := xp) (xo := xo) (xc := xc) (by unfold N9; go_keep) hbB; obtain ⟨zB, ⟨p0B, p1B, p2B, p3B⟩, q0B, q1B, q2B, q3B, q4B⟩ := TB; have BB : Hid (Below w.heap.size w wB) := BA.out.trans (hbB.mono BA.out.size))
      try (go_wp2_with fail)
      refine hK.out _ _ ?_ (fun hH2 => ?_)
      · (try dsimp only)
        go_keep
      clear hK K hH1
      try simp only [Act.put, List.setIfInBounds_toArray, List.set_cons_zero, List.set_cons_succ]
      refine wpAnyH_ready (rs := [8]) (by kernel_rfl) (by simp) ?_
      refine AllReadyH.cons (o := { dst := some 36, op := Op.call { callee := Callee.value (Operand.func 21), args := #[Operand.tmp 35], argTypes := #[35] }, type := 4, pos := "laws.go:85", after := #[{ on := 7, ground := Ground.data }, { on := 6, ground := Ground.chain }, { on := 4, ground := Ground.guard }], guard := some (4, true) }) rfl (fun K hK => ?_) AllReadyH.nil
      go_simp
      (go_at_call 21; refine (K3.out _).mono ?_; rintro e wC ⟨rfl, hbC⟩; have TC := N9.below (n := w4.heap.size + 1) (b := w1.heap.size) (c := w4.heap.size) (sc := sc) (ho := ho) (pa := pa) (po := po) (xs := xs) (xh := xh) (xp := xp) (xo := xo) (xc := xc) (by unfold N9; go_keep) hbC; obtain ⟨zC, ⟨p0C, p1C, p2C, p3C⟩, q0C, q1C, q2C, q3C, q4C⟩ := TC; have BC : Hid (Below w.heap.size w wC) := BB.out.trans (hbC.mono BB.out.size))
      try (go_wp2_with fail)
      refine hK.out _ _ ?_ (fun hH3 => ?_)
      · (try dsimp only)
        go_keep
      clear hK K hH2
      try simp only [Act.put, List.setIfInBounds_toArray, List.set_cons_zero, List.set_cons_succ]
      refine wpAnyH_take (i := 9) (oi := { dst := some 37, op := Op.binOp BinOp.eql 4 (Operand.tmp 34) (Operand.tmp 36) 4, type := 4, pos := "laws.go:85", after := #[{ on := 6, ground := Ground.data }, { on := 8, ground := Ground.data }, { on := 4, ground := Ground.guard }], guard := some (4, true) }) (v := ?vc9) rfl (by kernel_rfl) (by kernel_rfl) (by kernel_rfl) (fun _ _ _ h => h) (Or.inl ⟨by rfl, ?hyc9⟩) (by assumption) ?restc9
      case hyc9 =>
        intro w hSw
        (try dsimp only at hSw)
        go_simp
        try with_reducible rfl
      try simp only [Act.put, List.setIfInBounds_toArray, List.set_cons_zero, List.set_cons_succ]
      refine wpAnyH_take (i := 10) (oi := { dst := some 38, op := Op.pick (Operand.tmp 32) (Operand.tmp 37) (Operand.const (Value.bool false)), type := 4, pos := "laws.go:85", after := #[{ on := 4, ground := Ground.data }, { on := 9, ground := Ground.data }], guard := none }) (v := ?vc10) rfl (by kernel_rfl) (by kernel_rfl) (by kernel_rfl) (fun _ _ _ h => h) (Or.inl ⟨by rfl, ?hyc10⟩) (by assumption) ?restc10
      case hyc10 =>
        intro w hSw
        (try dsimp only at hSw)
        go_simp
        try with_reducible rfl
      try simp only [Act.put, List.setIfInBounds_toArray, List.set_cons_zero, List.set_cons_succ]
      refine wpAnyH_take (i := 11) (oi := { dst := some 39, op := Op.move (Operand.tmp 38), type := 4, pos := "laws.go:85", after := #[{ on := 10, ground := Ground.data }, { on := 8, ground := Ground.chain }], guard := none }) (v := ?vc11) rfl (by kernel_rfl) (by kernel_rfl) (by kernel_rfl) (fun _ _ _ h => h) (Or.inl ⟨by rfl, ?hyc11⟩) (by assumption) ?restc11
      case hyc11 =>
        intro w hSw
        (try dsimp only at hSw)
        go_simp
        try with_reducible rfl
      try simp only [Act.put, List.setIfInBounds_toArray, List.set_cons_zero, List.set_cons_succ]
      refine wpAnyH_take (i := 12) (oi := { dst := some 40, op := Op.move (Operand.tmp 6), type := 9, pos := "laws.go:85", after := #[{ on := 11, ground := Ground.guard }], guard := some (11, true) }) (v := ?vc12) rfl (by kernel_rfl) (by kernel_rfl) (by kernel_rfl) (fun _ _ _ h => h) (Or.inl ⟨by rfl, ?hyc12⟩) (by assumption) ?restc12
      case hyc12 =>
        intro w hSw
        (try dsimp only at hSw)
        go_simp
        try with_reducible rfl
      try simp only [Act.put, List.setIfInBounds_toArray, List.set_cons_zero, List.set_cons_succ]
      refine wpAnyH_take (i := 13) (oi := { dst := some 41, op := Op.binOp BinOp.eql 9 (Operand.tmp 40) (Operand.const (Value.string { data := #[] })) 9, type := 4, pos := "laws.go:85", after := #[{ on := 12, ground := Ground.data }, { on := 11, ground := Ground.guard }], guard := some (11, true) }) (v := ?vc13) rfl (by kernel_rfl) (by kernel_rfl) (by kernel_rfl) (fun _ _ _ h => h) (Or.inl ⟨by rfl, ?hyc13⟩) (by assumption) ?restc13
      case hyc13 =>
        intro w hSw
        (try dsimp only at hSw)
        go_simp
        try with_reducible rfl
      try simp only [Act.put, List.setIfInBounds_toArray, List.set_cons_zero, List.set_cons_succ]
      refine wpAnyH_take (i := 14) (oi := { dst := some 42, op := Op.move (Operand.tmp 41), type := 4, pos := "laws.go:85", after := #[{ on := 13, ground := Ground.data }, { on := 11, ground := Ground.chain }, { on := 11, ground := Ground.guard }], guard := some (11, true) }) (v := ?vc14) rfl (by kernel_rfl) (by kernel_rfl) (by kernel_rfl) (fun _ _ _ h => h) (Or.inl ⟨by rfl, ?hyc14⟩) (by assumption) ?restc14
      case hyc14 =>
        intro w hSw
        (try dsimp only at hSw)
        go_simp
        try with_reducible rfl
      try simp only [Act.put, List.setIfInBounds_toArray, List.set_cons_zero, List.set_cons_succ]
      refine wpAnyH_take (i := 15) (oi := { dst := some 43, op := Op.move (Operand.tmp 6), type := 9, pos := "laws.go:85", after := #[{ on := 14, ground := Ground.guard }], guard := some (14, false) }) (v := ?vc15) rfl (by kernel_rfl) (by kernel_rfl) (by kernel_rfl) (fun _ _ _ h => h) (Or.inl ⟨by rfl, ?hyc15⟩) (by assumption) ?restc15
      case hyc15 =>
        intro w hSw
        (try dsimp only at hSw)
        go_simp
        try with_reducible rfl
      try simp only [Act.put, List.setIfInBounds_toArray, List.set_cons_zero, List.set_cons_succ]
      refine wpAnyH_take (i := 17) (oi := { dst := some 45, op := Op.load 35 (Operand.tmp 5), type := 35, pos := "laws.go:85", after := #[{ on := 14, ground := Ground.guard }], guard := some (14, false) }) (v := ?vc17) rfl (by kernel_rfl) (by kernel_rfl) (by kernel_rfl) (fun _ _ _ h => h) (Or.inl ⟨by rfl, ?hyc17⟩) (by assumption) ?restc17
      case hyc17 =>
        intro w hSw
        (try dsimp only at hSw)
        go_simp
        try with_reducible rfl
      try simp only [Act.put, List.setIfInBounds_toArray, List.set_cons_zero, List.set_cons_succ]
      refine wpAnyH_take (i := 18) (oi := { dst := some 46, op := Op.build 39 #[(0, Operand.tmp 45)], type := 39, pos := "laws.go:85", after := #[{ on := 17, ground := Ground.data }, { on := 14, ground := Ground.guard }], guard := some (14, false) }) (v := ?vc18) rfl (by kernel_rfl) (by kernel_rfl) (by kernel_rfl) (fun _ _ _ h => h) (Or.inl ⟨by rfl, ?hyc18⟩) (by assumption) ?restc18
      case hyc18 =>
        intro w hSw
        (try dsimp only at hSw)
        go_simp
        try with_reducible rfl
      try simp only [Act.put, List.setIfInBounds_toArray, List.set_cons_zero, List.set_cons_succ]
      refine wpAnyH_ready (rs := [16]) (by kernel_rfl) (by simp) ?_
      refine AllReadyH.cons (o := { dst := some 44, op := Op.call { callee := Callee.value (Operand.func 17), args := #[Operand.tmp 43], argTypes := #[9] }, type := 39, pos := "laws.go:85", after := #[{ on := 15, ground := Ground.data }, { on := 14, ground := Ground.chain }, { on := 14, ground := Ground.guard }], guard := some (14, false) }) rfl (fun K hK => ?_) AllReadyH.nil
      go_simp
      (go_at_call 17; refine (K4.out _ BC.out).mono ?_; rintro e wD ⟨rfl, hbD⟩; have TD := N9.below (n := w4.heap.size + 1) (b := w1.heap.size) (c := w4.heap.size) (sc := sc) (ho := ho) (pa := pa) (po := po) (xs := xs) (xh := xh) (xp := xp) (xo := xo) (xc := xc) (by unfold N9; go_keep) hbD; obtain ⟨zD, ⟨p0D, p1D, p2D, p3D⟩, q0D, q1D, q2D, q3D, q4D⟩ := TD; have BD : Hid (Below w.heap.size w wD) := BC.out.trans (hbD.mono BC.out.size))
      try (go_wp2_with fail)
      refine hK.out _ _ ?_ (fun hH4 => ?_)
      · (try dsimp only)
        go_keep
      clear hK K hH3
      try simp only [Act.put, List.setIfInBounds_toArray, List.set_cons_zero, List.set_cons_succ]
      refine wpAnyH_take (i := 19) (oi := { dst := some 47, op := Op.binOp BinOp.eql 39 (Operand.tmp 44) (Operand.tmp 46) 39, type := 4, pos := "laws.go:85", after := #[{ on := 16, ground := Ground.data }, { on := 18, ground := Ground.data }, { on := 14, ground := Ground.guard }], guard := some (14, false) }) (v := ?vc19) rfl (by kernel_rfl) (by kernel_rfl) (by kernel_rfl) (fun _ _ _ h => h) (Or.inl ⟨by rfl, ?hyc19⟩) (by assumption) ?restc19
      case hyc19 =>
        intro w hSw
        (try dsimp only at hSw)
        go_simp
        try with_reducible rfl
      try simp only [Act.put, List.setIfInBounds_toArray, List.set_cons_zero, List.set_cons_succ]
      refine wpAnyH_take (i := 20) (oi := { dst := some 48, op := Op.pick (Operand.tmp 42) (Operand.const (Value.bool true)) (Operand.tmp 47), type := 4, pos := "laws.go:85", after := #[{ on := 14, ground := Ground.data }, { on := 19, ground := Ground.data }, { on := 11, ground := Ground.guard }], guard := some (11, true) }) (v := ?vc20) rfl (by kernel_rfl) (by kernel_rfl) (by kernel_rfl) (fun _ _ _ h => h) (Or.inl ⟨by rfl, ?hyc20⟩) (by assumption) ?restc20
      case hyc20 =>
        intro w hSw
        (try dsimp only at hSw)
        go_simp
        try with_reducible rfl
      try simp only [Act.put, List.setIfInBounds_toArray, List.set_cons_zero, List.set_cons_succ]
      refine wpAnyH_take (i := 21) (oi := { dst := some 49, op := Op.pick (Operand.tmp 39) (Operand.tmp 48) (Operand.const (Value.bool false)), type := 4, pos := "laws.go:85", after := #[{ on := 11, ground := Ground.data }, { on := 20, ground := Ground.data }], guard := none }) (v := ?vc21) rfl (by kernel_rfl) (by kernel_rfl) (by kernel_rfl) (fun _ _ _ h => h) (Or.inl ⟨by rfl, ?hyc21⟩) (by assumption) ?restc21
      case hyc21 =>
        intro w hSw
        (try dsimp only at hSw)
        go_simp
        try with_reducible rfl
      try simp only [Act.put, List.setIfInBounds_toArray, List.set_cons_zero, List.set_cons_succ]
      refine wpAnyH_take (i := 22) (oi := { dst := some 50, op := Op.move (Operand.tmp 49), type := 4, pos := "laws.go:85", after := #[{ on := 21, ground := Ground.data }, { on := 16, ground := Ground.chain }], guard := none }) (v := ?vc22) rfl (by kernel_rfl) (by kernel_rfl) (by kernel_rfl) (fun _ _ _ h => h) (Or.inl ⟨by rfl, ?hyc22⟩) (by assumption) ?restc22
      case hyc22 =>
        intro w hSw
        (try dsimp only at hSw)
        go_simp
        try with_reducible rfl
      try simp only [Act.put, List.setIfInBounds_toArray, List.set_cons_zero, List.set_cons_succ]
      refine wpAnyH_take (i := 23) (oi := { dst := some 51, op := Op.load 39 (Operand.tmp 8), type := 39, pos := "laws.go:85", after := #[{ on := 22, ground := Ground.guard }], guard := some (22, true) }) (v := ?vc23) rfl (by kernel_rfl) (by kernel_rfl) (by kernel_rfl) (fun _ _ _ h => h) (Or.inl ⟨by rfl, ?hyc23⟩) (by assumption) ?restc23
      case hyc23 =>
        intro w hSw
        (try dsimp only at hSw)
        go_simp
        try with_reducible rfl
      try simp only [Act.put, List.setIfInBounds_toArray, List.set_cons_zero, List.set_cons_succ]
      refine wpAnyH_take (i := 24) (oi := { dst := some 52, op := Op.move (Operand.tmp 7), type := 9, pos := "laws.go:85", after := #[{ on := 22, ground := Ground.guard }], guard := some (22, true) }) (v := ?vc24) rfl (by kernel_rfl) (by kernel_rfl) (by kernel_rfl) (fun _ _ _ h => h) (Or.inl ⟨by rfl, ?hyc24⟩) (by assumption) ?restc24
      case hyc24 =>
        intro w hSw
        (try dsimp only at hSw)
        go_simp
        try with_reducible rfl
      try simp only [Act.put, List.setIfInBounds_toArray, List.set_cons_zero, List.set_cons_succ]
      refine wpAnyH_ready (rs := [25]) (by kernel_rfl) (by simp) ?_
      refine AllReadyH.cons (o := { dst := some 53, op := Op.call { callee := Callee.value (Operand.func 22), args := #[Operand.tmp 52], argTypes := #[9] }, type := 39, pos := "laws.go:85", after := #[{ on := 24, ground := Ground.data }, { on := 22, ground := Ground.chain }, { on := 22, ground := Ground.guard }], guard := some (22, true) }) rfl (fun K hK => ?_) AllReadyH.nil
      go_simp
      (go_at_call 22; refine (K5.out _).mono ?_; rintro e wE ⟨rfl, hbE⟩; have TE := N9.below (n := w4.heap.size + 1) (b := w1.heap.size) (c := w4.heap.size) (sc := sc) (ho := ho) (pa := pa) (po := po) (xs := xs) (xh := xh) (xp := xp) (xo := xo) (xc := xc) (by unfold N9; go_keep) hbE; obtain ⟨zE, ⟨p0E, p1E, p2E, p3E⟩, q0E, q1E, q2E, q3E, q4E⟩ := TE; have BE : Hid (Below w.heap.size w wE) := BD.out.trans (hbE.mono BD.out.size))
      try (go_wp2_with fail)
      refine hK.out _ _ ?_ (fun hH5 => ?_)
      · (try dsimp only)
        go_keep
      clear hK K hH4
      try simp only [Act.put, List.setIfInBounds_toArray, List.set_cons_zero, List.set_cons_succ]
      refine wpAnyH_take (i := 26) (oi := { dst := some 54, op := Op.binOp BinOp.eql 39 (Operand.tmp 51) (Operand.tmp 53) 39, type := 4, pos := "laws.go:85", after := #[{ on := 23, ground := Ground.data }, { on := 25, ground := Ground.data }, { on := 22, ground := Ground.guard }], guard := some (22, true) }) (v := ?vc26) rfl (by kernel_rfl) (by kernel_rfl) (by kernel_rfl) (fun _ _ _ h => h) (Or.inl ⟨by rfl, ?hyc26⟩) (by assumption) ?restc26
      case hyc26 =>
        intro w hSw
        (try dsimp only at hSw)
        go_simp
        try with_reducible rfl
      try simp only [Act.put, List.setIfInBounds_toArray, List.set_cons_zero, List.set_cons_succ]
      refine wpAnyH_take (i := 27) (oi := { dst := some 55, op := Op.pick (Operand.tmp 50) (Operand.tmp 54) (Operand.const (Value.bool false)), type := 4, pos := "laws.go:85", after := #[{ on := 22, ground := Ground.data }, { on := 26, ground := Ground.data }], guard := none }) (v := ?vc27) rfl (by kernel_rfl) (by kernel_rfl) (by kernel_rfl) (fun _ _ _ h => h) (Or.inl ⟨by rfl, ?hyc27⟩) (by assumption) ?restc27
      case hyc27 =>
        intro w hSw
        (try dsimp only at hSw)
        go_simp
        try with_reducible rfl
      try simp only [Act.put, List.setIfInBounds_toArray, List.set_cons_zero, List.set_cons_succ]
      refine wpAnyH_take (i := 28) (oi := { dst := some 56, op := Op.move (Operand.tmp 55), type := 4, pos := "laws.go:85", after := #[{ on := 27, ground := Ground.data }, { on := 25, ground := Ground.chain }], guard := none }) (v := ?vc28) rfl (by kernel_rfl) (by kernel_rfl) (by kernel_rfl) (fun _ _ _ h => h) (Or.inl ⟨by rfl, ?hyc28⟩) (by assumption) ?restc28
      case hyc28 =>
        intro w hSw
        (try dsimp only at hSw)
        go_simp
        try with_reducible rfl
      try simp only [Act.put, List.setIfInBounds_toArray, List.set_cons_zero, List.set_cons_succ]
      refine wpAnyH_take (i := 29) (oi := { dst := some 57, op := Op.fieldAddr 39 (Operand.tmp 8) 1, type := 0, pos := "laws.go:85", after := #[{ on := 28, ground := Ground.guard }], guard := some (28, true) }) (v := ?vc29) rfl (by kernel_rfl) (by kernel_rfl) (by kernel_rfl) (fun _ _ _ h => h) (Or.inl ⟨by rfl, ?hyc29⟩) (by assumption) ?restc29
      case hyc29 =>
        intro w hSw
        (try dsimp only at hSw)
        go_simp
        try with_reducible rfl
      try simp only [Act.put, List.setIfInBounds_toArray, List.set_cons_zero, List.set_cons_succ]
      refine wpAnyH_take (i := 30) (oi := { dst := some 58, op := Op.load 2 (Operand.tmp 57), type := 2, pos := "laws.go:85", after := #[{ on := 29, ground := Ground.data }, { on := 28, ground := Ground.guard }], guard := some (28, true) }) (v := ?vc30) rfl (by kernel_rfl) (by kernel_rfl) (by kernel_rfl) (fun _ _ _ h => h) (Or.inl ⟨by rfl, ?hyc30⟩) (by assumption) ?restc30
      case hyc30 =>
        intro w hSw
        (try dsimp only at hSw)
        go_simp
        try with_reducible rfl
      try simp only [Act.put, List.setIfInBounds_toArray, List.set_cons_zero, List.set_cons_succ]
      refine wpAnyH_take (i := 31) (oi := { dst := some 59, op := Op.binOp BinOp.neq 2 (Operand.tmp 58) (Operand.const (Value.int IntKind.i64 0)) 2, type := 4, pos := "laws.go:85", after := #[{ on := 30, ground := Ground.data }, { on := 28, ground := Ground.guard }], guard := some (28, true) }) (v := ?vc31) rfl (by kernel_rfl) (by kernel_rfl) (by kernel_rfl) (fun _ _ _ h => h) (Or.inl ⟨by rfl, ?hyc31⟩) (by assumption) ?restc31
      case hyc31 =>
        intro w hSw
        (try dsimp only at hSw)
        go_simp
        try with_reducible rfl
      try simp only [Act.put, List.setIfInBounds_toArray, List.set_cons_zero, List.set_cons_succ]
      refine wpAnyH_take (i := 32) (oi := { dst := some 60, op := Op.move (Operand.tmp 59), type := 4, pos := "laws.go:85", after := #[{ on := 31, ground := Ground.data }, { on := 28, ground := Ground.chain }, { on := 28, ground := Ground.guard }], guard := some (28, true) }) (v := ?vc32) rfl (by kernel_rfl) (by kernel_rfl) (by kernel_rfl) (fun _ _ _ h => h) (Or.inl ⟨by rfl, ?hyc32⟩) (by assumption) ?restc32
      case hyc32 =>
        intro w hSw
        (try dsimp only at hSw)
        go_simp
        try with_reducible rfl
      try simp only [Act.put, List.setIfInBounds_toArray, List.set_cons_zero, List.set_cons_succ]
      refine wpAnyH_take (i := 33) (oi := { dst := some 61, op := Op.fieldAddr 39 (Operand.tmp 8) 0, type := 0, pos := "laws.go:85", after := #[{ on := 32, ground := Ground.guard }], guard := some (32, false) }) (v := undef) rfl (by kernel_rfl) (by kernel_rfl) (by kernel_rfl) (fun _ _ _ h => h) (Or.inr ⟨by rfl, rfl⟩) (by assumption) ?_
      try simp only [Act.put, List.setIfInBounds_toArray, List.set_cons_zero, List.set_cons_succ]
      refine wpAnyH_take (i := 34) (oi := { dst := some 62, op := Op.load 35 (Operand.tmp 61), type := 35, pos := "laws.go:85", after := #[{ on := 33, ground := Ground.data }, { on := 32, ground := Ground.guard }], guard := some (32, false) }) (v := undef) rfl (by kernel_rfl) (by kernel_rfl) (by kernel_rfl) (fun _ _ _ h => h) (Or.inr ⟨by rfl, rfl⟩) (by assumption) ?_
      try simp only [Act.put, List.setIfInBounds_toArray, List.set_cons_zero, List.set_cons_succ]
      refine wpAnyH_take (i := 35) (oi := { dst := some 63, op := Op.call { callee := Callee.value (Operand.func 15), args := #[Operand.tmp 62], argTypes := #[35] }, type := 9, pos := "laws.go:85", after := #[{ on := 34, ground := Ground.data }, { on := 32, ground := Ground.chain }, { on := 32, ground := Ground.guard }], guard := some (32, false) }) (v := undef) rfl (by kernel_rfl) (by kernel_rfl) (by kernel_rfl) (fun _ _ _ h => h) (Or.inr ⟨by rfl, rfl⟩) (by assumption) ?_
      try simp only [Act.put, List.setIfInBounds_toArray, List.set_cons_zero, List.set_cons_succ]
      refine wpAnyH_take (i := 36) (oi := { dst := some 64, op := Op.move (Operand.tmp 7), type := 9, pos := "laws.go:85", after := #[{ on := 32, ground := Ground.guard }], guard := some (32, false) }) (v := undef) rfl (by kernel_rfl) (by kernel_rfl) (by kernel_rfl) (fun _ _ _ h => h) (Or.inr ⟨by rfl, rfl⟩) (by assumption) ?_
      try simp only [Act.put, List.setIfInBounds_toArray, List.set_cons_zero, List.set_cons_succ]
      refine wpAnyH_take (i := 37) (oi := { dst := some 65, op := Op.binOp BinOp.eql 9 (Operand.tmp 63) (Operand.tmp 64) 9, type := 4, pos := "laws.go:85", after := #[{ on := 35, ground := Ground.data }, { on := 36, ground := Ground.data }, { on := 32, ground := Ground.guard }], guard := some (32, false) }) (v := undef) rfl (by kernel_rfl) (by kernel_rfl) (by kernel_rfl) (fun _ _ _ h => h) (Or.inr ⟨by rfl, rfl⟩) (by assumption) ?_
      try simp only [Act.put, List.setIfInBounds_toArray, List.set_cons_zero, List.set_cons_succ]
      refine wpAnyH_take (i := 38) (oi := { dst := some 66, op := Op.pick (Operand.tmp 60) (Operand.const (Value.bool true)) (Operand.tmp 65), type := 4, pos := "laws.go:85", after := #[{ on := 32, ground := Ground.data }, { on := 37, ground := Ground.data }, { on := 28, ground := Ground.guard }], guard := some (28, true) }) (v := ?vc38) rfl (by kernel_rfl) (by kernel_rfl) (by kernel_rfl) (fun _ _ _ h => h) (Or.inl ⟨by rfl, ?hyc38⟩) (by assumption) ?restc38
      case hyc38 =>
        intro w hSw
        (try dsimp only at hSw)
        go_simp
        try with_reducible rfl
      try simp only [Act.put, List.setIfInBounds_toArray, List.set_cons_zero, List.set_cons_succ]
      refine wpAnyH_take (i := 39) (oi := { dst := some 67, op := Op.pick (Operand.tmp 56) (Operand.tmp 66) (Operand.const (Value.bool false)), type := 4, pos := "laws.go:85", after := #[{ on := 28, ground := Ground.data }, { on := 38, ground := Ground.data }], guard := none }) (v := ?vc39) rfl (by kernel_rfl) (by kernel_rfl) (by kernel_rfl) (fun _ _ _ h => h) (Or.inl ⟨by rfl, ?hyc39⟩) (by assumption) ?restc39
      case hyc39 =>
        intro w hSw
        (try dsimp only at hSw)
        go_simp
        try with_reducible rfl
      try simp only [Act.put, List.setIfInBounds_toArray, List.set_cons_zero, List.set_cons_succ]
      refine wpAnyH_take (i := 40) (oi := { dst := some 68, op := Op.move (Operand.tmp 67), type := 4, pos := "laws.go:85", after := #[{ on := 39, ground := Ground.data }, { on := 35, ground := Ground.chain }], guard := none }) (v := ?vc40) rfl (by kernel_rfl) (by kernel_rfl) (by kernel_rfl) (fun _ _ _ h => h) (Or.inl ⟨by rfl, ?hyc40⟩) (by assumption) ?restc40
      case hyc40 =>
        intro w hSw
        (try dsimp only at hSw)
        go_simp
        try with_reducible rfl
      try simp only [Act.put, List.setIfInBounds_toArray, List.set_cons_zero, List.set_cons_succ]
      refine wpAnyH_take (i := 41) (oi := { dst := some 69, op := Op.move (Operand.tmp 9), type := 9, pos := "laws.go:85", after := #[{ on := 40, ground := Ground.guard }], guard := some (40, true) }) (v := ?vc41) rfl (by kernel_rfl) (by kernel_rfl) (by kernel_rfl) (fun _ _ _ h => h) (Or.inl ⟨by rfl, ?hyc41⟩) (by assumption) ?restc41
      case hyc41 =>
        intro w hSw
        (try dsimp only at hSw)
        go_simp
        try with_reducible rfl
      try simp only [Act.put, List.setIfInBounds_toArray, List.set_cons_zero, List.set_cons_succ]
      refine wpAnyH_take (i := 43) (oi := { dst := some 71, op := Op.move (Operand.tmp 9), type := 9, pos := "laws.go:85", after := #[{ on := 40, ground := Ground.guard }], guard := some (40, true) }) (v := ?vc43) rfl (by kernel_rfl) (by kernel_rfl) (by kernel_rfl) (fun _ _ _ h => h) (Or.inl ⟨by rfl, ?hyc43⟩) (by assumption) ?restc43
      case hyc43 =>
        intro w hSw
        (try dsimp only at hSw)
        go_simp
        try with_reducible rfl
      try simp only [Act.put, List.setIfInBounds_toArray, List.set_cons_zero, List.set_cons_succ]
      refine wpAnyH_ready (rs := [42]) (by kernel_rfl) (by simp) ?_
      refine AllReadyH.cons (o := { dst := some 70, op := Op.call { callee := Callee.value (Operand.func 24), args := #[Operand.tmp 69], argTypes := #[9] }, type := 43, pos := "laws.go:85", after := #[{ on := 41, ground := Ground.data }, { on := 40, ground := Ground.chain }, { on := 40, ground := Ground.guard }], guard := some (40, true) }) rfl (fun K hK => ?_) AllReadyH.nil
      go_simp
      (go_at_call 24; refine (K7.out _ BE.out).mono ?_; rintro e wG ⟨vG, rfl, slG, hbG⟩; have TG := N9.below (n := w4.heap.size + 1) (b := w1.heap.size) (c := w4.heap.size) (sc := sc) (ho := ho) (pa := pa) (po := po) (xs := xs) (xh := xh) (xp := xp) (xo := xo) (xc := xc) (by unfold N9; go_keep) hbG; obtain ⟨zG, ⟨p0G, p1G, p2G, p3G⟩, q0G, q1G, q2G, q3G, q4G⟩ := TG; have BG : Hid (Below w.heap.size w wG) := BE.out.trans (hbG.mono BE.out.size))
      try (go_wp2_with fail)
      refine hK.out _ _ ?_ (fun hH6 => ?_)
      · (try dsimp only)
        go_keep
      clear hK K hH5
      try simp only [Act.put, List.setIfInBounds_toArray, List.set_cons_zero, List.set_cons_succ]
      refine wpAnyH_ready (rs := [44]) (by kernel_rfl) (by simp) ?_
      refine AllReadyH.cons (o := { dst := some 72, op := Op.call { callee := Callee.value (Operand.func 25), args := #[Operand.tmp 71], argTypes := #[9] }, type := 43, pos := "laws.go:85", after := #[{ on := 43, ground := Ground.data }, { on := 42, ground := Ground.chain }, { on := 40, ground := Ground.guard }], guard := some (40, true) }) rfl (fun K hK => ?_) AllReadyH.nil
      go_simp
      (go_at_call 25; refine (K8.out _).mono ?_; rintro e wH ⟨vH, rfl, slH, hbH⟩; have TH := N9.below (n := w4.heap.size + 1) (b := w1.heap.size) (c := w4.heap.size) (sc := sc) (ho := ho) (pa := pa) (po := po) (xs := xs) (xh := xh) (xp := xp) (xo := xo) (xc := xc) (by unfold N9; go_keep) hbH; obtain ⟨zH, ⟨p0H, p1H, p2H, p3H⟩, q0H, q1H, q2H, q3H, q4H⟩ := TH; have BH : Hid (Below w.heap.size w wH) := BG.out.trans (hbH.mono BG.out.size))
      try (go_wp2_with fail)
      refine hK.out _ _ ?_ (fun hH7 => ?_)
      · (try dsimp only)
        go_keep
      clear hK K hH6
      try simp only [Act.put, List.setIfInBounds_toArray, List.set_cons_zero, List.set_cons_succ]
      refine wpAnyH_ready (rs := [45]) (by kernel_rfl) (by simp) ?_
      refine AllReadyH.cons (o := { dst := some 73, op := Op.call { callee := Callee.value (Operand.func 23), args := #[Operand.tmp 70, Operand.tmp 72], argTypes := #[43, 43] }, type := 4, pos := "laws.go:85", after := #[{ on := 42, ground := Ground.data }, { on := 44, ground := Ground.data }, { on := 44, ground := Ground.chain }, { on := 40, ground := Ground.guard }], guard := some (40, true) }) rfl (fun K hK => ?_) AllReadyH.nil
      go_simp
      (go_at_call 23; refine (lwTexts_any _ _ _ _ _ _ _ (slG.below hbH) slH hn).mono ?_; rintro e wI ⟨rfl, hbI⟩; have TI := N9.below (n := w4.heap.size + 1) (b := w1.heap.size) (c := w4.heap.size) (sc := sc) (ho := ho) (pa := pa) (po := po) (xs := xs) (xh := xh) (xp := xp) (xo := xo) (xc := xc) (by unfold N9; go_keep) hbI; obtain ⟨zI, ⟨p0I, p1I, p2I, p3I⟩, q0I, q1I, q2I, q3I, q4I⟩ := TI; have BI : Hid (Below w.heap.size w wI) := BH.out.trans (hbI.mono BH.out.size))
      try (go_wp2_with fail)
      refine hK.out _ _ ?_ (fun hH8 => ?_)
      · (try dsimp only)
        go_keep
      clear hK K hH7
      try simp only [Act.put, List.setIfInBounds_toArray, List.set_cons_zero, List.set_cons_succ]
      refine wpAnyH_take (i := 46) (oi := { dst := some 74, op := Op.pick (Operand.tmp 68) (Operand.tmp 73) (Operand.const (Value.bool false)), type := 4, pos := "laws.go:85", after := #[{ on := 40, ground := Ground.data }, { on := 45, ground := Ground.data }], guard := none }) (v := ?vc46) rfl (by kernel_rfl) (by kernel_rfl) (by kernel_rfl) (fun _ _ _ h => h) (Or.inl ⟨by rfl, ?hyc46⟩) (by assumption) ?restc46
      case hyc46 =>
        intro w hSw
        (try dsimp only at hSw)
        go_simp
        try with_reducible rfl
      try simp only [Act.put, List.setIfInBounds_toArray, List.set_cons_zero, List.set_cons_succ]
      refine wpAnyH_take (i := 47) (oi := { dst := some 75, op := Op.move (Operand.tmp 74), type := 4, pos := "laws.go:85", after := #[{ on := 46, ground := Ground.data }, { on := 45, ground := Ground.chain }], guard := none }) (v := ?vc47) rfl (by kernel_rfl) (by kernel_rfl) (by kernel_rfl) (fun _ _ _ h => h) (Or.inl ⟨by rfl, ?hyc47⟩) (by assumption) ?restc47
      case hyc47 =>
        intro w hSw
        (try dsimp only at hSw)
        go_simp
        try with_reducible rfl
      try simp only [Act.put, List.setIfInBounds_toArray, List.set_cons_zero, List.set_cons_succ]
      refine wpAnyH_take (i := 48) (oi := { dst := some 76, op := Op.move (Operand.tmp 9), type := 9, pos := "laws.go:85", after := #[{ on := 47, ground := Ground.guard }], guard := some (47, true) }) (v := ?vc48) rfl (by kernel_rfl) (by kernel_rfl) (by kernel_rfl) (fun _ _ _ h => h) (Or.inl ⟨by rfl, ?hyc48⟩) (by assumption) ?restc48
      case hyc48 =>
        intro w hSw
        (try dsimp only at hSw)
        go_simp
        try with_reducible rfl
      try simp only [Act.put, List.setIfInBounds_toArray, List.set_cons_zero, List.set_cons_succ]
      refine wpAnyH_take (i := 50) (oi := { dst := some 78, op := Op.move (Operand.tmp 9), type := 9, pos := "laws.go:85", after := #[{ on := 47, ground := Ground.guard }], guard := some (47, true) }) (v := ?vc50) rfl (by kernel_rfl) (by kernel_rfl) (by kernel_rfl) (fun _ _ _ h => h) (Or.inl ⟨by rfl, ?hyc50⟩) (by assumption) ?restc50
      case hyc50 =>
        intro w hSw
        (try dsimp only at hSw)
        go_simp
        try with_reducible rfl
      try simp only [Act.put, List.setIfInBounds_toArray, List.set_cons_zero, List.set_cons_succ]
      refine wpAnyH_ready (rs := [49]) (by kernel_rfl) (by simp) ?_
      refine AllReadyH.cons (o := { dst := some 77, op := Op.call { callee := Callee.value (Operand.func 26), args := #[Operand.tmp 76], argTypes := #[9] }, type := 4, pos := "laws.go:85", after := #[{ on := 48, ground := Ground.data }, { on := 47, ground := Ground.chain }, { on := 47, ground := Ground.guard }], guard := some (47, true) }) rfl (fun K hK => ?_) AllReadyH.nil
      go_simp
      (go_at_call 26; refine (K10.out _ BI.out).mono ?_; rintro e wJ ⟨rfl, hbJ⟩; have TJ := N9.below (n := w4.heap.size + 1) (b := w1.heap.size) (c := w4.heap.size) (sc := sc) (ho := ho) (pa := pa) (po := po) (xs := xs) (xh := xh) (xp := xp) (xo := xo) (xc := xc) (by unfold N9; go_keep) hbJ; obtain ⟨zJ, ⟨p0J, p1J, p2J, p3J⟩, q0J, q1J, q2J, q3J, q4J⟩ := TJ; have BJ : Hid (Below w.heap.size w wJ) := BI.out.trans (hbJ.mono BI.out.size))
      try (go_wp2_with fail)
      refine hK.out _ _ ?_ (fun hH9 => ?_)
      · (try dsimp only)
        go_keep
      clear hK K hH8
      try simp only [Act.put, List.setIfInBounds_toArray, List.set_cons_zero, List.set_cons_succ]
      refine wpAnyH_ready (rs := [51]) (by kernel_rfl) (by simp) ?_
      refine AllReadyH.cons (o := { dst := some 79, op := Op.call { callee := Callee.value (Operand.func 27), args := #[Operand.tmp 78], argTypes := #[9] }, type := 4, pos := "laws.go:85", after := #[{ on := 50, ground := Ground.data }, { on := 49, ground := Ground.chain }, { on := 47, ground := Ground.guard }], guard := some (47, true) }) rfl (fun K hK => ?_) AllReadyH.nil
      go_simp
      (go_at_call 27; refine (K11.out _).mono ?_; rintro e wK ⟨rfl, hbK⟩; have TK := N9.below (n := w4.heap.size + 1) (b := w1.heap.size) (c := w4.heap.size) (sc := sc) (ho := ho) (pa := pa) (po := po) (xs := xs) (xh := xh) (xp := xp) (xo := xo) (xc := xc) (by unfold N9; go_keep) hbK; obtain ⟨zK, ⟨p0K, p1K, p2K, p3K⟩, q0K, q1K, q2K, q3K, q4K⟩ := TK; have BK : Hid (Below w.heap.size w wK) := BJ.out.trans (hbK.mono BJ.out.size))
      try (go_wp2_with fail)
      refine hK.out _ _ ?_ (fun hH10 => ?_)
      · (try dsimp only)
        go_keep
      clear hK K hH9
      try simp only [Act.put, List.setIfInBounds_toArray, List.set_cons_zero, List.set_cons_succ]
      refine wpAnyH_take (i := 52) (oi := { dst := some 80, op := Op.binOp BinOp.eql 4 (Operand.tmp 77) (Operand.tmp 79) 4, type := 4, pos := "laws.go:85", after := #[{ on := 49, ground := Ground.data }, { on := 51, ground := Ground.data }, { on := 47, ground := Ground.guard }], guard := some (47, true) }) (v := ?vc52) rfl (by kernel_rfl) (by kernel_rfl) (by kernel_rfl) (fun _ _ _ h => h) (Or.inl ⟨by rfl, ?hyc52⟩) (by assumption) ?restc52
      case hyc52 =>
        intro w hSw
        (try dsimp only at hSw)
        go_simp
        try with_reducible rfl
      try simp only [Act.put, List.setIfInBounds_toArray, List.set_cons_zero, List.set_cons_succ]
      refine wpAnyH_take (i := 53) (oi := { dst := some 81, op := Op.pick (Operand.tmp 75) (Operand.tmp 80) (Operand.const (Value.bool false)), type := 4, pos := "laws.go:85", after := #[{ on := 47, ground := Ground.data }, { on := 52, ground := Ground.data }], guard := none }) (v := ?vc53) rfl (by kernel_rfl) (by kernel_rfl) (by kernel_rfl) (fun _ _ _ h => h) (Or.inl ⟨by rfl, ?hyc53⟩) (by assumption) ?restc53
      case hyc53 =>
        intro w hSw
        (try dsimp only at hSw)
        go_simp
        try with_reducible rfl
      try simp only [Act.put, List.setIfInBounds_toArray, List.set_cons_zero, List.set_cons_succ]
      refine wpAnyH_take (i := 54) (oi := { dst := some 4, op := Op.assign (Operand.tmp 81), type := 4, pos := "laws.go:85", after := #[{ on := 53, ground := Ground.data }, { on := 51, ground := Ground.chain }, { on := 0, ground := Ground.phase }, { on := 1, ground := Ground.phase }, { on := 2, ground := Ground.phase }, { on := 3, ground := Ground.phase }, { on := 4, ground := Ground.phase }, { on := 5, ground := Ground.phase }, { on := 6, ground := Ground.phase }, { on := 7, ground := Ground.phase }, { on := 8, ground := Ground.phase }, { on := 9, ground := Ground.phase }, { on := 10, ground := Ground.phase }, { on := 11, ground := Ground.phase }, { on := 12, ground := Ground.phase }, { on := 13, ground := Ground.phase }, { on := 14, ground := Ground.phase }, { on := 15, ground := Ground.phase }, { on := 16, ground := Ground.phase }, { on := 17, ground := Ground.phase }, { on := 18, ground := Ground.phase }, { on := 19, ground := Ground.phase }, { on := 20, ground := Ground.phase }, { on := 21, ground := Ground.phase }, { on := 22, ground := Ground.phase }, { on := 23, ground := Ground.phase }, { on := 24, ground := Ground.phase }, { on := 25, ground := Ground.phase }, { on := 26, ground := Ground.phase }, { on := 27, ground := Ground.phase }, { on := 28, ground := Ground.phase }, { on := 29, ground := Ground.phase }, { on := 30, ground := Ground.phase }, { on := 31, ground := Ground.phase }, { on := 32, ground := Ground.phase }, { on := 33, ground := Ground.phase }, { on := 34, ground := Ground.phase }, { on := 35, ground := Ground.phase }, { on := 36, ground := Ground.phase }, { on := 37, ground := Ground.phase }, { on := 38, ground := Ground.phase }, { on := 39, ground := Ground.phase }, { on := 40, ground := Ground.phase }, { on := 41, ground := Ground.phase }, { on := 42, ground := Ground.phase }, { on := 43, ground := Ground.phase }, { on := 44, ground := Ground.phase }, { on := 45, ground := Ground.phase }, { on := 46, ground := Ground.phase }, { on := 47, ground := Ground.phase }, { on := 48, ground := Ground.phase }, { on := 49, ground := Ground.phase }, { on := 50, ground := Ground.phase }, { on := 51, ground := Ground.phase }, { on := 52, ground := Ground.phase }, { on := 53, ground := Ground.phase }], guard := none }) (v := ?vc54) rfl (by kernel_rfl) (by kernel_rfl) (by kernel_rfl) (fun _ _ _ h => h) (Or.inl ⟨by rfl, ?hyc54⟩) (by assumption) ?restc54
      case hyc54 =>
        intro w hSw
        (try dsimp only at hSw)
        go_simp
        try with_reducible rfl
      try simp only [Act.put, List.setIfInBounds_toArray, List.set_cons_zero, List.set_cons_succ]
      refine wpAnyH_done (by kernel_rfl) ?_ _
      go_wp2
      go_ret
      exact ⟨rfl, BK.out⟩
    case neg =>
      have K1 : Hid (∀ W, Calls Tryd.prog 19 #[.agg #[.string sc, .string ho, .int .i64 po, .string pa]] W fun e w' => e = .returned (.string (urlT sc ho pa po)) ∧ Below W.heap.size W w') := fun W => specUrlText_any sc ho pa po W
      have K2 : Hid (∀ W, Below w.heap.size w W → Calls Tryd.prog 20 #[.agg #[.string sc, .string ho, .int .i64 po, .string pa]] W fun e w' => e = .returned (.bool (urlB sc ho pa po)) ∧ Below W.heap.size W w') := fun W hb => HR.out sc ho pa po W hb (by omega)
      have K3 : Hid (∀ W, Calls Tryd.prog 21 #[.agg #[.string sc, .string ho, .int .i64 po, .string pa]] W fun e w' => e = .returned (.bool (urlB sc ho pa po)) ∧ Below W.heap.size W w') := fun W => specUrlRight_any sc ho pa po W
      have K5 : Hid (∀ W, Calls Tryd.prog 22 #[.string v] W fun e w' => e = .returned (.agg #[.string xs, .string xh, .int .i64 xo, .string xp, .int .i64 xc]) ∧ Below W.heap.size W w') := fun W => by have := specUrlRead_any v W; rw [ev] at this; exact this
      have K7 : Hid (∀ W, Below w.heap.size w W → Calls Tryd.prog 24 #[.string h] W fun e w' => ∃ v, e = .returned v ∧ SliceS w' W.heap.size v (labelsL h).length (atL (labelsL h)) ∧ Below W.heap.size W w') := fun W hb => HL.out h W hb (by omega)
      have K8 : Hid (∀ W, Calls Tryd.prog 25 #[.string h] W fun e w' => ∃ v, e = .returned v ∧ SliceS w' W.heap.size v (labelsL h).length (atL (labelsL h)) ∧ Below W.heap.size W w') := fun W => specLabelsOf_any h W
      have K10 : Hid (∀ W, Below w.heap.size w W → Calls Tryd.prog 26 #[.string h] W fun e w' => e = .returned (.bool (hostB h)) ∧ Below W.heap.size W w') := fun W hb => HH.out h W hb (by omega)
      have K11 : Hid (∀ W, Calls Tryd.prog 27 #[.string h] W fun e w' => e = .returned (.bool (hostB h)) ∧ Below W.heap.size W w') := fun W => specHost_any h W
      have hn : (labelsL h).length ≤ 1048576 := by have := labelsL_len h; omega
      have hxq : (xc != 0) = true := by rw [bne_iff_ne]; exact hxc
      have hemp : (urlT sc ho pa po).toList.isEmpty = true := by rw [urlT, if_neg hu, ByteArray.toList_eq]; rfl
      have huf : urlB sc ho pa po = false := by simpa using hu
      rw [huf] at K2 K3
      clear HT HR HD HL HH hu huf ev hxc
      generalize urlT sc ho pa po = t at *
      generalize (labelsL h).length = n at *
      generalize atL (labelsL h) = f at *
      generalize hostB h = hbool at *
      obtain ⟨z5, ⟨p0, p1, p2, p3⟩, r0, r1, r2, r3, r4⟩ := M5
      refine wp_region_held_drew (S := (fun w' => w4.heap.size + 1 ≤ w'.heap.size ∧ (w'.cell? ⟨w1.heap.size, 0, none⟩ = some (.string sc) ∧ w'.cell? ⟨w1.heap.size, 1, none⟩ = some (.string ho) ∧ w'.cell? ⟨w1.heap.size, 2, none⟩ = some (.int .i64 po) ∧ w'.cell? ⟨w1.heap.size, 3, none⟩ = some (.string pa)) ∧ (w'.cell? ⟨w4.heap.size, 0, none⟩ = some (.string xs) ∧ w'.cell? ⟨w4.heap.size, 1, none⟩ = some (.string xh) ∧ w'.cell? ⟨w4.heap.size, 2, none⟩ = some (.int .i64 xo) ∧ w'.cell? ⟨w4.heap.size, 3, none⟩ = some (.string xp) ∧ w'.cell? ⟨w4.heap.size, 4, none⟩ = some (.int .i64 xc)))) (by kernel_rfl) ?_ (fun hH0 => ?_)
      · (try dsimp only)
        go_keep
      refine wpAnyH_take (i := 0) (oi := { dst := some 28, op := Op.move (Operand.tmp 6), type := 9, pos := "laws.go:85", after := #[], guard := none }) (v := ?vd0) rfl (by kernel_rfl) (by kernel_rfl) (by kernel_rfl) (fun _ _ _ h => h) (Or.inl ⟨by rfl, ?hyd0⟩) (by assumption) ?restd0
      case hyd0 =>
        intro w hSw
        (try dsimp only at hSw)
        go_simp
        try with_reducible rfl
      try simp only [Act.put, List.setIfInBounds_toArray, List.set_cons_zero, List.set_cons_succ]
      refine wpAnyH_take (i := 1) (oi := { dst := some 29, op := Op.load 35 (Operand.tmp 5), type := 35, pos := "laws.go:85", after := #[], guard := none }) (v := ?vd1) rfl (by kernel_rfl) (by kernel_rfl) (by kernel_rfl) (fun _ _ _ h => h) (Or.inl ⟨by rfl, ?hyd1⟩) (by assumption) ?restd1
      case hyd1 =>
        intro w hSw
        (try dsimp only at hSw)
        go_simp
        try with_reducible rfl
      try simp only [Act.put, List.setIfInBounds_toArray, List.set_cons_zero, List.set_cons_succ]
      refine wpAnyH_ready (rs := [2]) (by kernel_rfl) (by simp) ?_
      refine AllReadyH.cons (o := { dst := some 30, op := Op.call { callee := Callee.value (Operand.func 19), args := #[Operand.tmp 29], argTypes := #[35] }, type := 9, pos := "laws.go:85", after := #[{ on := 1, ground := Ground.data }], guard := none }) rfl (fun K hK => ?_) AllReadyH.nil
      go_simp
      (go_at_call 19; refine (K1.out _).mono ?_; rintro e wA ⟨rfl, hbA⟩; have TA := N9.below (n := w4.heap.size + 1) (b := w1.heap.size) (c := w4.heap.size) (sc := sc) (ho := ho) (pa := pa) (po := po) (xs := xs) (xh := xh) (xp := xp) (xo := xo) (xc := xc) (by unfold N9; go_keep) hbA; obtain ⟨zA, ⟨p0A, p1A, p2A, p3A⟩, q0A, q1A, q2A, q3A, q4A⟩ := TA; have BA : Hid (Below w.heap.size w wA) := (B5.out.trans (Below.drew (Below.refl _ _))).trans (hbA.mono (by simp; omega)))
      try (go_wp2_with fail)
      refine hK.out _ _ ?_ (fun hH1 => ?_)
      · (try dsimp only)
        go_keep
      clear hK K hH0
      try simp only [Act.put, List.setIfInBounds_toArray, List.set_cons_zero, List.set_cons_succ]
      refine wpAnyH_take (i := 3) (oi := { dst := some 31, op := Op.binOp BinOp.eql 9 (Operand.tmp 28) (Operand.tmp 30) 9, type := 4, pos := "laws.go:85", after := #[{ on := 0, ground := Ground.data }, { on := 2, ground := Ground.data }], guard := none }) (v := ?vd3) rfl (by kernel_rfl) (by kernel_rfl) (by kernel_rfl) (fun _ _ _ h => h) (Or.inl ⟨by rfl, ?hyd3⟩) (by assumption) ?restd3
      case hyd3 =>
        intro w hSw
        (try dsimp only at hSw)
        go_simp
        try with_reducible rfl
      try simp only [Act.put, List.setIfInBounds_toArray, List.set_cons_zero, List.set_cons_succ]
      refine wpAnyH_take (i := 4) (oi := { dst := some 32, op := Op.move (Operand.tmp 31), type := 4, pos := "laws.go:85", after := #[{ on := 3, ground := Ground.data }, { on := 2, ground := Ground.chain }], guard := none }) (v := ?vd4) rfl (by kernel_rfl) (by kernel_rfl) (by kernel_rfl) (fun _ _ _ h => h) (Or.inl ⟨by rfl, ?hyd4⟩) (by assumption) ?restd4
      case hyd4 =>
        intro w hSw
        (try dsimp only at hSw)
        go_simp
        try with_reducible rfl
      try simp only [Act.put, List.setIfInBounds_toArray, List.set_cons_zero, List.set_cons_succ]
      refine wpAnyH_take (i := 5) (oi := { dst := some 33, op := Op.load 35 (Operand.tmp 5), type := 35, pos := "laws.go:85", after := #[{ on := 4, ground := Ground.guard }], guard := some (4, true) }) (v := ?vd5) rfl (by kernel_rfl) (by kernel_rfl) (by kernel_rfl) (fun _ _ _ h => h) (Or.inl ⟨by rfl, ?hyd5⟩) (by assumption) ?restd5
      case hyd5 =>
        intro w hSw
        (try dsimp only at hSw)
        go_simp
        try with_reducible rfl
      try simp only [Act.put, List.setIfInBounds_toArray, List.set_cons_zero, List.set_cons_succ]
      refine wpAnyH_take (i := 7) (oi := { dst := some 35, op := Op.load 35 (Operand.tmp 5), type := 35, pos := "laws.go:85", after := #[{ on := 4, ground := Ground.guard }], guard := some (4, true) }) (v := ?vd7) rfl (by kernel_rfl) (by kernel_rfl) (by kernel_rfl) (fun _ _ _ h => h) (Or.inl ⟨by rfl, ?hyd7⟩) (by assumption) ?restd7
      case hyd7 =>
        intro w hSw
        (try dsimp only at hSw)
        go_simp
        try with_reducible rfl
      try simp only [Act.put, List.setIfInBounds_toArray, List.set_cons_zero, List.set_cons_succ]
      refine wpAnyH_ready (rs := [6]) (by kernel_rfl) (by simp) ?_
      refine AllReadyH.cons (o := { dst := some 34, op := Op.call { callee := Callee.value (Operand.func 20), args := #[Operand.tmp 33], argTypes := #[35] }, type := 4, pos := "laws.go:85", after := #[{ on := 5, ground := Ground.data }, { on := 4, ground := Ground.chain }, { on := 4, ground := Ground.guard }], guard := some (4, true) }) rfl (fun K hK => ?_) AllReadyH.nil
      go_simp
      (go_at_call 20; refine (K2.out _ BA.out).mono ?_; rintro e wB ⟨rfl, hbB⟩; have TB := N9.below (n := w4.heap.size + 1) (b := w1.heap.size) (c := w4.heap.size) (sc := sc) (ho := ho) (pa := pa) (po := po) (xs := xs) (xh := xh) (xp := xp) (xo := xo) (xc := xc) (by unfold N9; go_keep) hbB; obtain ⟨zB, ⟨p0B, p1B, p2B, p3B⟩, q0B, q1B, q2B, q3B, q4B⟩ := TB; have BB : Hid (Below w.heap.size w wB) := BA.out.trans (hbB.mono BA.out.size))
      try (go_wp2_with fail)
      refine hK.out _ _ ?_ (fun hH2 => ?_)
      · (try dsimp only)
        go_keep
      clear hK K hH1
      try simp only [Act.put, List.setIfInBounds_toArray, List.set_cons_zero, List.set_cons_succ]
      refine wpAnyH_ready (rs := [8]) (by kernel_rfl) (by simp) ?_
      refine AllReadyH.cons (o := { dst := some 36, op := Op.call { callee := Callee.value (Operand.func 21), args := #[Operand.tmp 35], argTypes := #[35] }, type := 4, pos := "laws.go:85", after := #[{ on := 7, ground := Ground.data }, { on := 6, ground := Ground.chain }, { on := 4, ground := Ground.guard }], guard := some (4, true) }) rfl (fun K hK => ?_) AllReadyH.nil
      go_simp
      (go_at_call 21; refine (K3.out _).mono ?_; rintro e wC ⟨rfl, hbC⟩; have TC := N9.below (n := w4.heap.size + 1) (b := w1.heap.size) (c := w4.heap.size) (sc := sc) (ho := ho) (pa := pa) (po := po) (xs := xs) (xh := xh) (xp := xp) (xo := xo) (xc := xc) (by unfold N9; go_keep) hbC; obtain ⟨zC, ⟨p0C, p1C, p2C, p3C⟩, q0C, q1C, q2C, q3C, q4C⟩ := TC; have BC : Hid (Below w.heap.size w wC) := BB.out.trans (hbC.mono BB.out.size))
      try (go_wp2_with fail)
      refine hK.out _ _ ?_ (fun hH3 => ?_)
      · (try dsimp only)
        go_keep
      clear hK K hH2
      try simp only [Act.put, List.setIfInBounds_toArray, List.set_cons_zero, List.set_cons_succ]
      refine wpAnyH_take (i := 9) (oi := { dst := some 37, op := Op.binOp BinOp.eql 4 (Operand.tmp 34) (Operand.tmp 36) 4, type := 4, pos := "laws.go:85", after := #[{ on := 6, ground := Ground.data }, { on := 8, ground := Ground.data }, { on := 4, ground := Ground.guard }], guard := some (4, true) }) (v := ?vd9) rfl (by kernel_rfl) (by kernel_rfl) (by kernel_rfl) (fun _ _ _ h => h) (Or.inl ⟨by rfl, ?hyd9⟩) (by assumption) ?restd9
      case hyd9 =>
        intro w hSw
        (try dsimp only at hSw)
        go_simp
        try with_reducible rfl
      try simp only [Act.put, List.setIfInBounds_toArray, List.set_cons_zero, List.set_cons_succ]
      refine wpAnyH_take (i := 10) (oi := { dst := some 38, op := Op.pick (Operand.tmp 32) (Operand.tmp 37) (Operand.const (Value.bool false)), type := 4, pos := "laws.go:85", after := #[{ on := 4, ground := Ground.data }, { on := 9, ground := Ground.data }], guard := none }) (v := ?vd10) rfl (by kernel_rfl) (by kernel_rfl) (by kernel_rfl) (fun _ _ _ h => h) (Or.inl ⟨by rfl, ?hyd10⟩) (by assumption) ?restd10
      case hyd10 =>
        intro w hSw
        (try dsimp only at hSw)
        go_simp
        try with_reducible rfl
      try simp only [Act.put, List.setIfInBounds_toArray, List.set_cons_zero, List.set_cons_succ]
      refine wpAnyH_take (i := 11) (oi := { dst := some 39, op := Op.move (Operand.tmp 38), type := 4, pos := "laws.go:85", after := #[{ on := 10, ground := Ground.data }, { on := 8, ground := Ground.chain }], guard := none }) (v := ?vd11) rfl (by kernel_rfl) (by kernel_rfl) (by kernel_rfl) (fun _ _ _ h => h) (Or.inl ⟨by rfl, ?hyd11⟩) (by assumption) ?restd11
      case hyd11 =>
        intro w hSw
        (try dsimp only at hSw)
        go_simp
        try with_reducible rfl
      try simp only [Act.put, List.setIfInBounds_toArray, List.set_cons_zero, List.set_cons_succ]
      refine wpAnyH_take (i := 12) (oi := { dst := some 40, op := Op.move (Operand.tmp 6), type := 9, pos := "laws.go:85", after := #[{ on := 11, ground := Ground.guard }], guard := some (11, true) }) (v := ?vd12) rfl (by kernel_rfl) (by kernel_rfl) (by kernel_rfl) (fun _ _ _ h => h) (Or.inl ⟨by rfl, ?hyd12⟩) (by assumption) ?restd12
      case hyd12 =>
        intro w hSw
        (try dsimp only at hSw)
        go_simp
        try with_reducible rfl
      try simp only [Act.put, List.setIfInBounds_toArray, List.set_cons_zero, List.set_cons_succ]
      refine wpAnyH_take (i := 13) (oi := { dst := some 41, op := Op.binOp BinOp.eql 9 (Operand.tmp 40) (Operand.const (Value.string { data := #[] })) 9, type := 4, pos := "laws.go:85", after := #[{ on := 12, ground := Ground.data }, { on := 11, ground := Ground.guard }], guard := some (11, true) }) (v := ?vd13) rfl (by kernel_rfl) (by kernel_rfl) (by kernel_rfl) (fun _ _ _ h => h) (Or.inl ⟨by rfl, ?hyd13⟩) (by assumption) ?restd13
      case hyd13 =>
        intro w hSw
        (try dsimp only at hSw)
        go_simp
        try with_reducible rfl
      try simp only [Act.put, List.setIfInBounds_toArray, List.set_cons_zero, List.set_cons_succ]
      refine wpAnyH_take (i := 14) (oi := { dst := some 42, op := Op.move (Operand.tmp 41), type := 4, pos := "laws.go:85", after := #[{ on := 13, ground := Ground.data }, { on := 11, ground := Ground.chain }, { on := 11, ground := Ground.guard }], guard := some (11, true) }) (v := ?vd14) rfl (by kernel_rfl) (by kernel_rfl) (by kernel_rfl) (fun _ _ _ h => h) (Or.inl ⟨by rfl, ?hyd14⟩) (by assumption) ?restd14
      case hyd14 =>
        intro w hSw
        (try dsimp only at hSw)
        go_simp
        try with_reducible rfl
      try simp only [Act.put, List.setIfInBounds_toArray, List.set_cons_zero, List.set_cons_succ]
      refine wpAnyH_take (i := 15) (oi := { dst := some 43, op := Op.move (Operand.tmp 6), type := 9, pos := "laws.go:85", after := #[{ on := 14, ground := Ground.guard }], guard := some (14, false) }) (v := undef) rfl (by kernel_rfl) (by kernel_rfl) (by kernel_rfl) (fun _ _ _ h => h) (Or.inr ⟨by rfl, rfl⟩) (by assumption) ?_
      try simp only [Act.put, List.setIfInBounds_toArray, List.set_cons_zero, List.set_cons_succ]
      refine wpAnyH_take (i := 16) (oi := { dst := some 44, op := Op.call { callee := Callee.value (Operand.func 17), args := #[Operand.tmp 43], argTypes := #[9] }, type := 39, pos := "laws.go:85", after := #[{ on := 15, ground := Ground.data }, { on := 14, ground := Ground.chain }, { on := 14, ground := Ground.guard }], guard := some (14, false) }) (v := undef) rfl (by kernel_rfl) (by kernel_rfl) (by kernel_rfl) (fun _ _ _ h => h) (Or.inr ⟨by rfl, rfl⟩) (by assumption) ?_
      try simp only [Act.put, List.setIfInBounds_toArray, List.set_cons_zero, List.set_cons_succ]
      refine wpAnyH_take (i := 17) (oi := { dst := some 45, op := Op.load 35 (Operand.tmp 5), type := 35, pos := "laws.go:85", after := #[{ on := 14, ground := Ground.guard }], guard := some (14, false) }) (v := undef) rfl (by kernel_rfl) (by kernel_rfl) (by kernel_rfl) (fun _ _ _ h => h) (Or.inr ⟨by rfl, rfl⟩) (by assumption) ?_
      try simp only [Act.put, List.setIfInBounds_toArray, List.set_cons_zero, List.set_cons_succ]
      refine wpAnyH_take (i := 18) (oi := { dst := some 46, op := Op.build 39 #[(0, Operand.tmp 45)], type := 39, pos := "laws.go:85", after := #[{ on := 17, ground := Ground.data }, { on := 14, ground := Ground.guard }], guard := some (14, false) }) (v := undef) rfl (by kernel_rfl) (by kernel_rfl) (by kernel_rfl) (fun _ _ _ h => h) (Or.inr ⟨by rfl, rfl⟩) (by assumption) ?_
      try simp only [Act.put, List.setIfInBounds_toArray, List.set_cons_zero, List.set_cons_succ]
      refine wpAnyH_take (i := 19) (oi := { dst := some 47, op := Op.binOp BinOp.eql 39 (Operand.tmp 44) (Operand.tmp 46) 39, type := 4, pos := "laws.go:85", after := #[{ on := 16, ground := Ground.data }, { on := 18, ground := Ground.data }, { on := 14, ground := Ground.guard }], guard := some (14, false) }) (v := undef) rfl (by kernel_rfl) (by kernel_rfl) (by kernel_rfl) (fun _ _ _ h => h) (Or.inr ⟨by rfl, rfl⟩) (by assumption) ?_
      try simp only [Act.put, List.setIfInBounds_toArray, List.set_cons_zero, List.set_cons_succ]
      refine wpAnyH_take (i := 20) (oi := { dst := some 48, op := Op.pick (Operand.tmp 42) (Operand.const (Value.bool true)) (Operand.tmp 47), type := 4, pos := "laws.go:85", after := #[{ on := 14, ground := Ground.data }, { on := 19, ground := Ground.data }, { on := 11, ground := Ground.guard }], guard := some (11, true) }) (v := ?vd20) rfl (by kernel_rfl) (by kernel_rfl) (by kernel_rfl) (fun _ _ _ h => h) (Or.inl ⟨by rfl, ?hyd20⟩) (by assumption) ?restd20
      case hyd20 =>
        intro w hSw
        (try dsimp only at hSw)
        go_simp
        try with_reducible rfl
      try simp only [Act.put, List.setIfInBounds_toArray, List.set_cons_zero, List.set_cons_succ]
      refine wpAnyH_take (i := 21) (oi := { dst := some 49, op := Op.pick (Operand.tmp 39) (Operand.tmp 48) (Operand.const (Value.bool false)), type := 4, pos := "laws.go:85", after := #[{ on := 11, ground := Ground.data }, { on := 20, ground := Ground.data }], guard := none }) (v := ?vd21) rfl (by kernel_rfl) (by kernel_rfl) (by kernel_rfl) (fun _ _ _ h => h) (Or.inl ⟨by rfl, ?hyd21⟩) (by assumption) ?restd21
      case hyd21 =>
        intro w hSw
        (try dsimp only at hSw)
        go_simp
        try with_reducible rfl
      try simp only [Act.put, List.setIfInBounds_toArray, List.set_cons_zero, List.set_cons_succ]
      refine wpAnyH_take (i := 22) (oi := { dst := some 50, op := Op.move (Operand.tmp 49), type := 4, pos := "laws.go:85", after := #[{ on := 21, ground := Ground.data }, { on := 16, ground := Ground.chain }], guard := none }) (v := ?vd22) rfl (by kernel_rfl) (by kernel_rfl) (by kernel_rfl) (fun _ _ _ h => h) (Or.inl ⟨by rfl, ?hyd22⟩) (by assumption) ?restd22
      case hyd22 =>
        intro w hSw
        (try dsimp only at hSw)
        go_simp
        try with_reducible rfl
      try simp only [Act.put, List.setIfInBounds_toArray, List.set_cons_zero, List.set_cons_succ]
      refine wpAnyH_take (i := 23) (oi := { dst := some 51, op := Op.load 39 (Operand.tmp 8), type := 39, pos := "laws.go:85", after := #[{ on := 22, ground := Ground.guard }], guard := some (22, true) }) (v := ?vd23) rfl (by kernel_rfl) (by kernel_rfl) (by kernel_rfl) (fun _ _ _ h => h) (Or.inl ⟨by rfl, ?hyd23⟩) (by assumption) ?restd23
      case hyd23 =>
        intro w hSw
        (try dsimp only at hSw)
        go_simp
        try with_reducible rfl
      try simp only [Act.put, List.setIfInBounds_toArray, List.set_cons_zero, List.set_cons_succ]
      refine wpAnyH_take (i := 24) (oi := { dst := some 52, op := Op.move (Operand.tmp 7), type := 9, pos := "laws.go:85", after := #[{ on := 22, ground := Ground.guard }], guard := some (22, true) }) (v := ?vd24) rfl (by kernel_rfl) (by kernel_rfl) (by kernel_rfl) (fun _ _ _ h => h) (Or.inl ⟨by rfl, ?hyd24⟩) (by assumption) ?restd24
      case hyd24 =>
        intro w hSw
        (try dsimp only at hSw)
        go_simp
        try with_reducible rfl
      try simp only [Act.put, List.setIfInBounds_toArray, List.set_cons_zero, List.set_cons_succ]
      refine wpAnyH_ready (rs := [25]) (by kernel_rfl) (by simp) ?_
      refine AllReadyH.cons (o := { dst := some 53, op := Op.call { callee := Callee.value (Operand.func 22), args := #[Operand.tmp 52], argTypes := #[9] }, type := 39, pos := "laws.go:85", after := #[{ on := 24, ground := Ground.data }, { on := 22, ground := Ground.chain }, { on := 22, ground := Ground.guard }], guard := some (22, true) }) rfl (fun K hK => ?_) AllReadyH.nil
      go_simp
      (go_at_call 22; refine (K5.out _).mono ?_; rintro e wE ⟨rfl, hbE⟩; have TE := N9.below (n := w4.heap.size + 1) (b := w1.heap.size) (c := w4.heap.size) (sc := sc) (ho := ho) (pa := pa) (po := po) (xs := xs) (xh := xh) (xp := xp) (xo := xo) (xc := xc) (by unfold N9; go_keep) hbE; obtain ⟨zE, ⟨p0E, p1E, p2E, p3E⟩, q0E, q1E, q2E, q3E, q4E⟩ := TE; have BE : Hid (Below w.heap.size w wE) := BC.out.trans (hbE.mono BC.out.size))
      try (go_wp2_with fail)
      refine hK.out _ _ ?_ (fun hH4 => ?_)
      · (try dsimp only)
        go_keep
      clear hK K hH3
      try simp only [Act.put, List.setIfInBounds_toArray, List.set_cons_zero, List.set_cons_succ]
      refine wpAnyH_take (i := 26) (oi := { dst := some 54, op := Op.binOp BinOp.eql 39 (Operand.tmp 51) (Operand.tmp 53) 39, type := 4, pos := "laws.go:85", after := #[{ on := 23, ground := Ground.data }, { on := 25, ground := Ground.data }, { on := 22, ground := Ground.guard }], guard := some (22, true) }) (v := ?vd26) rfl (by kernel_rfl) (by kernel_rfl) (by kernel_rfl) (fun _ _ _ h => h) (Or.inl ⟨by rfl, ?hyd26⟩) (by assumption) ?restd26
      case hyd26 =>
        intro w hSw
        (try dsimp only at hSw)
        go_simp
        try with_reducible rfl
      try simp only [Act.put, List.setIfInBounds_toArray, List.set_cons_zero, List.set_cons_succ]
      refine wpAnyH_take (i := 27) (oi := { dst := some 55, op := Op.pick (Operand.tmp 50) (Operand.tmp 54) (Operand.const (Value.bool false)), type := 4, pos := "laws.go:85", after := #[{ on := 22, ground := Ground.data }, { on := 26, ground := Ground.data }], guard := none }) (v := ?vd27) rfl (by kernel_rfl) (by kernel_rfl) (by kernel_rfl) (fun _ _ _ h => h) (Or.inl ⟨by rfl, ?hyd27⟩) (by assumption) ?restd27
      case hyd27 =>
        intro w hSw
        (try dsimp only at hSw)
        go_simp
        try with_reducible rfl
      try simp only [Act.put, List.setIfInBounds_toArray, List.set_cons_zero, List.set_cons_succ]
      refine wpAnyH_take (i := 28) (oi := { dst := some 56, op := Op.move (Operand.tmp 55), type := 4, pos := "laws.go:85", after := #[{ on := 27, ground := Ground.data }, { on := 25, ground := Ground.chain }], guard := none }) (v := ?vd28) rfl (by kernel_rfl) (by kernel_rfl) (by kernel_rfl) (fun _ _ _ h => h) (Or.inl ⟨by rfl, ?hyd28⟩) (by assumption) ?restd28
      case hyd28 =>
        intro w hSw
        (try dsimp only at hSw)
        go_simp
        try with_reducible rfl
      try simp only [Act.put, List.setIfInBounds_toArray, List.set_cons_zero, List.set_cons_succ]
      refine wpAnyH_take (i := 29) (oi := { dst := some 57, op := Op.fieldAddr 39 (Operand.tmp 8) 1, type := 0, pos := "laws.go:85", after := #[{ on := 28, ground := Ground.guard }], guard := some (28, true) }) (v := ?vd29) rfl (by kernel_rfl) (by kernel_rfl) (by kernel_rfl) (fun _ _ _ h => h) (Or.inl ⟨by rfl, ?hyd29⟩) (by assumption) ?restd29
      case hyd29 =>
        intro w hSw
        (try dsimp only at hSw)
        go_simp
        try with_reducible rfl
      try simp only [Act.put, List.setIfInBounds_toArray, List.set_cons_zero, List.set_cons_succ]
      refine wpAnyH_take (i := 30) (oi := { dst := some 58, op := Op.load 2 (Operand.tmp 57), type := 2, pos := "laws.go:85", after := #[{ on := 29, ground := Ground.data }, { on := 28, ground := Ground.guard }], guard := some (28, true) }) (v := ?vd30) rfl (by kernel_rfl) (by kernel_rfl) (by kernel_rfl) (fun _ _ _ h => h) (Or.inl ⟨by rfl, ?hyd30⟩) (by assumption) ?restd30
      case hyd30 =>
        intro w hSw
        (try dsimp only at hSw)
        go_simp
        try with_reducible rfl
      try simp only [Act.put, List.setIfInBounds_toArray, List.set_cons_zero, List.set_cons_succ]
      refine wpAnyH_take (i := 31) (oi := { dst := some 59, op := Op.binOp BinOp.neq 2 (Operand.tmp 58) (Operand.const (Value.int IntKind.i64 0)) 2, type := 4, pos := "laws.go:85", after := #[{ on := 30, ground := Ground.data }, { on := 28, ground := Ground.guard }], guard := some (28, true) }) (v := ?vd31) rfl (by kernel_rfl) (by kernel_rfl) (by kernel_rfl) (fun _ _ _ h => h) (Or.inl ⟨by rfl, ?hyd31⟩) (by assumption) ?restd31
      case hyd31 =>
        intro w hSw
        (try dsimp only at hSw)
        go_simp
        try with_reducible rfl
      try simp only [Act.put, List.setIfInBounds_toArray, List.set_cons_zero, List.set_cons_succ]
      refine wpAnyH_take (i := 32) (oi := { dst := some 60, op := Op.move (Operand.tmp 59), type := 4, pos := "laws.go:85", after := #[{ on := 31, ground := Ground.data }, { on := 28, ground := Ground.chain }, { on := 28, ground := Ground.guard }], guard := some (28, true) }) (v := ?vd32) rfl (by kernel_rfl) (by kernel_rfl) (by kernel_rfl) (fun _ _ _ h => h) (Or.inl ⟨by rfl, ?hyd32⟩) (by assumption) ?restd32
      case hyd32 =>
        intro w hSw
        (try dsimp only at hSw)
        go_simp
        try with_reducible rfl
      try simp only [Act.put, List.setIfInBounds_toArray, List.set_cons_zero, List.set_cons_succ]
      refine wpAnyH_take (i := 33) (oi := { dst := some 61, op := Op.fieldAddr 39 (Operand.tmp 8) 0, type := 0, pos := "laws.go:85", after := #[{ on := 32, ground := Ground.guard }], guard := some (32, false) }) (v := undef) rfl (by kernel_rfl) (by kernel_rfl) (by kernel_rfl) (fun _ _ _ h => h) (Or.inr ⟨by rfl, rfl⟩) (by assumption) ?_
      try simp only [Act.put, List.setIfInBounds_toArray, List.set_cons_zero, List.set_cons_succ]
      refine wpAnyH_take (i := 34) (oi := { dst := some 62, op := Op.load 35 (Operand.tmp 61), type := 35, pos := "laws.go:85", after := #[{ on := 33, ground := Ground.data }, { on := 32, ground := Ground.guard }], guard := some (32, false) }) (v := undef) rfl (by kernel_rfl) (by kernel_rfl) (by kernel_rfl) (fun _ _ _ h => h) (Or.inr ⟨by rfl, rfl⟩) (by assumption) ?_
      try simp only [Act.put, List.setIfInBounds_toArray, List.set_cons_zero, List.set_cons_succ]
      refine wpAnyH_take (i := 35) (oi := { dst := some 63, op := Op.call { callee := Callee.value (Operand.func 15), args := #[Operand.tmp 62], argTypes := #[35] }, type := 9, pos := "laws.go:85", after := #[{ on := 34, ground := Ground.data }, { on := 32, ground := Ground.chain }, { on := 32, ground := Ground.guard }], guard := some (32, false) }) (v := undef) rfl (by kernel_rfl) (by kernel_rfl) (by kernel_rfl) (fun _ _ _ h => h) (Or.inr ⟨by rfl, rfl⟩) (by assumption) ?_
      try simp only [Act.put, List.setIfInBounds_toArray, List.set_cons_zero, List.set_cons_succ]
      refine wpAnyH_take (i := 36) (oi := { dst := some 64, op := Op.move (Operand.tmp 7), type := 9, pos := "laws.go:85", after := #[{ on := 32, ground := Ground.guard }], guard := some (32, false) }) (v := undef) rfl (by kernel_rfl) (by kernel_rfl) (by kernel_rfl) (fun _ _ _ h => h) (Or.inr ⟨by rfl, rfl⟩) (by assumption) ?_
      try simp only [Act.put, List.setIfInBounds_toArray, List.set_cons_zero, List.set_cons_succ]
      refine wpAnyH_take (i := 37) (oi := { dst := some 65, op := Op.binOp BinOp.eql 9 (Operand.tmp 63) (Operand.tmp 64) 9, type := 4, pos := "laws.go:85", after := #[{ on := 35, ground := Ground.data }, { on := 36, ground := Ground.data }, { on := 32, ground := Ground.guard }], guard := some (32, false) }) (v := undef) rfl (by kernel_rfl) (by kernel_rfl) (by kernel_rfl) (fun _ _ _ h => h) (Or.inr ⟨by rfl, rfl⟩) (by assumption) ?_
      try simp only [Act.put, List.setIfInBounds_toArray, List.set_cons_zero, List.set_cons_succ]
      refine wpAnyH_take (i := 38) (oi := { dst := some 66, op := Op.pick (Operand.tmp 60) (Operand.const (Value.bool true)) (Operand.tmp 65), type := 4, pos := "laws.go:85", after := #[{ on := 32, ground := Ground.data }, { on := 37, ground := Ground.data }, { on := 28, ground := Ground.guard }], guard := some (28, true) }) (v := ?vd38) rfl (by kernel_rfl) (by kernel_rfl) (by kernel_rfl) (fun _ _ _ h => h) (Or.inl ⟨by rfl, ?hyd38⟩) (by assumption) ?restd38
      case hyd38 =>
        intro w hSw
        (try dsimp only at hSw)
        go_simp
        try with_reducible rfl
      try simp only [Act.put, List.setIfInBounds_toArray, List.set_cons_zero, List.set_cons_succ]
      refine wpAnyH_take (i := 39) (oi := { dst := some 67, op := Op.pick (Operand.tmp 56) (Operand.tmp 66) (Operand.const (Value.bool false)), type := 4, pos := "laws.go:85", after := #[{ on := 28, ground := Ground.data }, { on := 38, ground := Ground.data }], guard := none }) (v := ?vd39) rfl (by kernel_rfl) (by kernel_rfl) (by kernel_rfl) (fun _ _ _ h => h) (Or.inl ⟨by rfl, ?hyd39⟩) (by assumption) ?restd39
      case hyd39 =>
        intro w hSw
        (try dsimp only at hSw)
        go_simp
        try with_reducible rfl
      try simp only [Act.put, List.setIfInBounds_toArray, List.set_cons_zero, List.set_cons_succ]
      refine wpAnyH_take (i := 40) (oi := { dst := some 68, op := Op.move (Operand.tmp 67), type := 4, pos := "laws.go:85", after := #[{ on := 39, ground := Ground.data }, { on := 35, ground := Ground.chain }], guard := none }) (v := ?vd40) rfl (by kernel_rfl) (by kernel_rfl) (by kernel_rfl) (fun _ _ _ h => h) (Or.inl ⟨by rfl, ?hyd40⟩) (by assumption) ?restd40
      case hyd40 =>
        intro w hSw
        (try dsimp only at hSw)
        go_simp
        try with_reducible rfl
      try simp only [Act.put, List.setIfInBounds_toArray, List.set_cons_zero, List.set_cons_succ]
      refine wpAnyH_take (i := 41) (oi := { dst := some 69, op := Op.move (Operand.tmp 9), type := 9, pos := "laws.go:85", after := #[{ on := 40, ground := Ground.guard }], guard := some (40, true) }) (v := ?vd41) rfl (by kernel_rfl) (by kernel_rfl) (by kernel_rfl) (fun _ _ _ h => h) (Or.inl ⟨by rfl, ?hyd41⟩) (by assumption) ?restd41
      case hyd41 =>
        intro w hSw
        (try dsimp only at hSw)
        go_simp
        try with_reducible rfl
      try simp only [Act.put, List.setIfInBounds_toArray, List.set_cons_zero, List.set_cons_succ]
      refine wpAnyH_take (i := 43) (oi := { dst := some 71, op := Op.move (Operand.tmp 9), type := 9, pos := "laws.go:85", after := #[{ on := 40, ground := Ground.guard }], guard := some (40, true) }) (v := ?vd43) rfl (by kernel_rfl) (by kernel_rfl) (by kernel_rfl) (fun _ _ _ h => h) (Or.inl ⟨by rfl, ?hyd43⟩) (by assumption) ?restd43
      case hyd43 =>
        intro w hSw
        (try dsimp only at hSw)
        go_simp
        try with_reducible rfl
      try simp only [Act.put, List.setIfInBounds_toArray, List.set_cons_zero, List.set_cons_succ]
      refine wpAnyH_ready (rs := [42]) (by kernel_rfl) (by simp) ?_
      refine AllReadyH.cons (o := { dst := some 70, op := Op.call { callee := Callee.value (Operand.func 24), args := #[Operand.tmp 69], argTypes := #[9] }, type := 43, pos := "laws.go:85", after := #[{ on := 41, ground := Ground.data }, { on := 40, ground := Ground.chain }, { on := 40, ground := Ground.guard }], guard := some (40, true) }) rfl (fun K hK => ?_) AllReadyH.nil
      go_simp
      (go_at_call 24; refine (K7.out _ BE.out).mono ?_; rintro e wG ⟨vG, rfl, slG, hbG⟩; have TG := N9.below (n := w4.heap.size + 1) (b := w1.heap.size) (c := w4.heap.size) (sc := sc) (ho := ho) (pa := pa) (po := po) (xs := xs) (xh := xh) (xp := xp) (xo := xo) (xc := xc) (by unfold N9; go_keep) hbG; obtain ⟨zG, ⟨p0G, p1G, p2G, p3G⟩, q0G, q1G, q2G, q3G, q4G⟩ := TG; have BG : Hid (Below w.heap.size w wG) := BE.out.trans (hbG.mono BE.out.size))
      try (go_wp2_with fail)
      refine hK.out _ _ ?_ (fun hH5 => ?_)
      · (try dsimp only)
        go_keep
      clear hK K hH4
      try simp only [Act.put, List.setIfInBounds_toArray, List.set_cons_zero, List.set_cons_succ]
      refine wpAnyH_ready (rs := [44]) (by kernel_rfl) (by simp) ?_
      refine AllReadyH.cons (o := { dst := some 72, op := Op.call { callee := Callee.value (Operand.func 25), args := #[Operand.tmp 71], argTypes := #[9] }, type := 43, pos := "laws.go:85", after := #[{ on := 43, ground := Ground.data }, { on := 42, ground := Ground.chain }, { on := 40, ground := Ground.guard }], guard := some (40, true) }) rfl (fun K hK => ?_) AllReadyH.nil
      go_simp
      (go_at_call 25; refine (K8.out _).mono ?_; rintro e wH ⟨vH, rfl, slH, hbH⟩; have TH := N9.below (n := w4.heap.size + 1) (b := w1.heap.size) (c := w4.heap.size) (sc := sc) (ho := ho) (pa := pa) (po := po) (xs := xs) (xh := xh) (xp := xp) (xo := xo) (xc := xc) (by unfold N9; go_keep) hbH; obtain ⟨zH, ⟨p0H, p1H, p2H, p3H⟩, q0H, q1H, q2H, q3H, q4H⟩ := TH; have BH : Hid (Below w.heap.size w wH) := BG.out.trans (hbH.mono BG.out.size))
      try (go_wp2_with fail)
      refine hK.out _ _ ?_ (fun hH6 => ?_)
      · (try dsimp only)
        go_keep
      clear hK K hH5
      try simp only [Act.put, List.setIfInBounds_toArray, List.set_cons_zero, List.set_cons_succ]
      refine wpAnyH_ready (rs := [45]) (by kernel_rfl) (by simp) ?_
      refine AllReadyH.cons (o := { dst := some 73, op := Op.call { callee := Callee.value (Operand.func 23), args := #[Operand.tmp 70, Operand.tmp 72], argTypes := #[43, 43] }, type := 4, pos := "laws.go:85", after := #[{ on := 42, ground := Ground.data }, { on := 44, ground := Ground.data }, { on := 44, ground := Ground.chain }, { on := 40, ground := Ground.guard }], guard := some (40, true) }) rfl (fun K hK => ?_) AllReadyH.nil
      go_simp
      (go_at_call 23; refine (lwTexts_any _ _ _ _ _ _ _ (slG.below hbH) slH hn).mono ?_; rintro e wI ⟨rfl, hbI⟩; have TI := N9.below (n := w4.heap.size + 1) (b := w1.heap.size) (c := w4.heap.size) (sc := sc) (ho := ho) (pa := pa) (po := po) (xs := xs) (xh := xh) (xp := xp) (xo := xo) (xc := xc) (by unfold N9; go_keep) hbI; obtain ⟨zI, ⟨p0I, p1I, p2I, p3I⟩, q0I, q1I, q2I, q3I, q4I⟩ := TI; have BI : Hid (Below w.heap.size w wI) := BH.out.trans (hbI.mono BH.out.size))
      try (go_wp2_with fail)
      refine hK.out _ _ ?_ (fun hH7 => ?_)
      · (try dsimp only)
        go_keep
      clear hK K hH6
      try simp only [Act.put, List.setIfInBounds_toArray, List.set_cons_zero, List.set_cons_succ]
      refine wpAnyH_take (i := 46) (oi := { dst := some 74, op := Op.pick (Operand.tmp 68) (Operand.tmp 73) (Operand.const (Value.bool false)), type := 4, pos := "laws.go:85", after := #[{ on := 40, ground := Ground.data }, { on := 45, ground := Ground.data }], guard := none }) (v := ?vd46) rfl (by kernel_rfl) (by kernel_rfl) (by kernel_rfl) (fun _ _ _ h => h) (Or.inl ⟨by rfl, ?hyd46⟩) (by assumption) ?restd46
      case hyd46 =>
        intro w hSw
        (try dsimp only at hSw)
        go_simp
        try with_reducible rfl
      try simp only [Act.put, List.setIfInBounds_toArray, List.set_cons_zero, List.set_cons_succ]
      refine wpAnyH_take (i := 47) (oi := { dst := some 75, op := Op.move (Operand.tmp 74), type := 4, pos := "laws.go:85", after := #[{ on := 46, ground := Ground.data }, { on := 45, ground := Ground.chain }], guard := none }) (v := ?vd47) rfl (by kernel_rfl) (by kernel_rfl) (by kernel_rfl) (fun _ _ _ h => h) (Or.inl ⟨by rfl, ?hyd47⟩) (by assumption) ?restd47
      case hyd47 =>
        intro w hSw
        (try dsimp only at hSw)
        go_simp
        try with_reducible rfl
      try simp only [Act.put, List.setIfInBounds_toArray, List.set_cons_zero, List.set_cons_succ]
      refine wpAnyH_take (i := 48) (oi := { dst := some 76, op := Op.move (Operand.tmp 9), type := 9, pos := "laws.go:85", after := #[{ on := 47, ground := Ground.guard }], guard := some (47, true) }) (v := ?vd48) rfl (by kernel_rfl) (by kernel_rfl) (by kernel_rfl) (fun _ _ _ h => h) (Or.inl ⟨by rfl, ?hyd48⟩) (by assumption) ?restd48
      case hyd48 =>
        intro w hSw
        (try dsimp only at hSw)
        go_simp
        try with_reducible rfl
      try simp only [Act.put, List.setIfInBounds_toArray, List.set_cons_zero, List.set_cons_succ]
      refine wpAnyH_take (i := 50) (oi := { dst := some 78, op := Op.move (Operand.tmp 9), type := 9, pos := "laws.go:85", after := #[{ on := 47, ground := Ground.guard }], guard := some (47, true) }) (v := ?vd50) rfl (by kernel_rfl) (by kernel_rfl) (by kernel_rfl) (fun _ _ _ h => h) (Or.inl ⟨by rfl, ?hyd50⟩) (by assumption) ?restd50
      case hyd50 =>
        intro w hSw
        (try dsimp only at hSw)
        go_simp
        try with_reducible rfl
      try simp only [Act.put, List.setIfInBounds_toArray, List.set_cons_zero, List.set_cons_succ]
      refine wpAnyH_ready (rs := [49]) (by kernel_rfl) (by simp) ?_
      refine AllReadyH.cons (o := { dst := some 77, op := Op.call { callee := Callee.value (Operand.func 26), args := #[Operand.tmp 76], argTypes := #[9] }, type := 4, pos := "laws.go:85", after := #[{ on := 48, ground := Ground.data }, { on := 47, ground := Ground.chain }, { on := 47, ground := Ground.guard }], guard := some (47, true) }) rfl (fun K hK => ?_) AllReadyH.nil
      go_simp
      (go_at_call 26; refine (K10.out _ BI.out).mono ?_; rintro e wJ ⟨rfl, hbJ⟩; have TJ := N9.below (n := w4.heap.size + 1) (b := w1.heap.size) (c := w4.heap.size) (sc := sc) (ho := ho) (pa := pa) (po := po) (xs := xs) (xh := xh) (xp := xp) (xo := xo) (xc := xc) (by unfold N9; go_keep) hbJ; obtain ⟨zJ, ⟨p0J, p1J, p2J, p3J⟩, q0J, q1J, q2J, q3J, q4J⟩ := TJ; have BJ : Hid (Below w.heap.size w wJ) := BI.out.trans (hbJ.mono BI.out.size))
      try (go_wp2_with fail)
      refine hK.out _ _ ?_ (fun hH8 => ?_)
      · (try dsimp only)
        go_keep
      clear hK K hH7
      try simp only [Act.put, List.setIfInBounds_toArray, List.set_cons_zero, List.set_cons_succ]
      refine wpAnyH_ready (rs := [51]) (by kernel_rfl) (by simp) ?_
      refine AllReadyH.cons (o := { dst := some 79, op := Op.call { callee := Callee.value (Operand.func 27), args := #[Operand.tmp 78], argTypes := #[9] }, type := 4, pos := "laws.go:85", after := #[{ on := 50, ground := Ground.data }, { on := 49, ground := Ground.chain }, { on := 47, ground := Ground.guard }], guard := some (47, true) }) rfl (fun K hK => ?_) AllReadyH.nil
      go_simp
      (go_at_call 27; refine (K11.out _).mono ?_; rintro e wK ⟨rfl, hbK⟩; have TK := N9.below (n := w4.heap.size + 1) (b := w1.heap.size) (c := w4.heap.size) (sc := sc) (ho := ho) (pa := pa) (po := po) (xs := xs) (xh := xh) (xp := xp) (xo := xo) (xc := xc) (by unfold N9; go_keep) hbK; obtain ⟨zK, ⟨p0K, p1K, p2K, p3K⟩, q0K, q1K, q2K, q3K, q4K⟩ := TK; have BK : Hid (Below w.heap.size w wK) := BJ.out.trans (hbK.mono BJ.out.size))
      try (go_wp2_with fail)
      refine hK.out _ _ ?_ (fun hH9 => ?_)
      · (try dsimp only)
        go_keep
      clear hK K hH8
      try simp only [Act.put, List.setIfInBounds_toArray, List.set_cons_zero, List.set_cons_succ]
      refine wpAnyH_take (i := 52) (oi := { dst := some 80, op := Op.binOp BinOp.eql 4 (Operand.tmp 77) (Operand.tmp 79) 4, type := 4, pos := "laws.go:85", after := #[{ on := 49, ground := Ground.data }, { on := 51, ground := Ground.data }, { on := 47, ground := Ground.guard }], guard := some (47, true) }) (v := ?vd52) rfl (by kernel_rfl) (by kernel_rfl) (by kernel_rfl) (fun _ _ _ h => h) (Or.inl ⟨by rfl, ?hyd52⟩) (by assumption) ?restd52
      case hyd52 =>
        intro w hSw
        (try dsimp only at hSw)
        go_simp
        try with_reducible rfl
      try simp only [Act.put, List.setIfInBounds_toArray, List.set_cons_zero, List.set_cons_succ]
      refine wpAnyH_take (i := 53) (oi := { dst := some 81, op := Op.pick (Operand.tmp 75) (Operand.tmp 80) (Operand.const (Value.bool false)), type := 4, pos := "laws.go:85", after := #[{ on := 47, ground := Ground.data }, { on := 52, ground := Ground.data }], guard := none }) (v := ?vd53) rfl (by kernel_rfl) (by kernel_rfl) (by kernel_rfl) (fun _ _ _ h => h) (Or.inl ⟨by rfl, ?hyd53⟩) (by assumption) ?restd53
      case hyd53 =>
        intro w hSw
        (try dsimp only at hSw)
        go_simp
        try with_reducible rfl
      try simp only [Act.put, List.setIfInBounds_toArray, List.set_cons_zero, List.set_cons_succ]
      refine wpAnyH_take (i := 54) (oi := { dst := some 4, op := Op.assign (Operand.tmp 81), type := 4, pos := "laws.go:85", after := #[{ on := 53, ground := Ground.data }, { on := 51, ground := Ground.chain }, { on := 0, ground := Ground.phase }, { on := 1, ground := Ground.phase }, { on := 2, ground := Ground.phase }, { on := 3, ground := Ground.phase }, { on := 4, ground := Ground.phase }, { on := 5, ground := Ground.phase }, { on := 6, ground := Ground.phase }, { on := 7, ground := Ground.phase }, { on := 8, ground := Ground.phase }, { on := 9, ground := Ground.phase }, { on := 10, ground := Ground.phase }, { on := 11, ground := Ground.phase }, { on := 12, ground := Ground.phase }, { on := 13, ground := Ground.phase }, { on := 14, ground := Ground.phase }, { on := 15, ground := Ground.phase }, { on := 16, ground := Ground.phase }, { on := 17, ground := Ground.phase }, { on := 18, ground := Ground.phase }, { on := 19, ground := Ground.phase }, { on := 20, ground := Ground.phase }, { on := 21, ground := Ground.phase }, { on := 22, ground := Ground.phase }, { on := 23, ground := Ground.phase }, { on := 24, ground := Ground.phase }, { on := 25, ground := Ground.phase }, { on := 26, ground := Ground.phase }, { on := 27, ground := Ground.phase }, { on := 28, ground := Ground.phase }, { on := 29, ground := Ground.phase }, { on := 30, ground := Ground.phase }, { on := 31, ground := Ground.phase }, { on := 32, ground := Ground.phase }, { on := 33, ground := Ground.phase }, { on := 34, ground := Ground.phase }, { on := 35, ground := Ground.phase }, { on := 36, ground := Ground.phase }, { on := 37, ground := Ground.phase }, { on := 38, ground := Ground.phase }, { on := 39, ground := Ground.phase }, { on := 40, ground := Ground.phase }, { on := 41, ground := Ground.phase }, { on := 42, ground := Ground.phase }, { on := 43, ground := Ground.phase }, { on := 44, ground := Ground.phase }, { on := 45, ground := Ground.phase }, { on := 46, ground := Ground.phase }, { on := 47, ground := Ground.phase }, { on := 48, ground := Ground.phase }, { on := 49, ground := Ground.phase }, { on := 50, ground := Ground.phase }, { on := 51, ground := Ground.phase }, { on := 52, ground := Ground.phase }, { on := 53, ground := Ground.phase }], guard := none }) (v := ?vd54) rfl (by kernel_rfl) (by kernel_rfl) (by kernel_rfl) (fun _ _ _ h => h) (Or.inl ⟨by rfl, ?hyd54⟩) (by assumption) ?restd54
      case hyd54 =>
        intro w hSw
        (try dsimp only at hSw)
        go_simp
        try with_reducible rfl
      try simp only [Act.put, List.setIfInBounds_toArray, List.set_cons_zero, List.set_cons_succ]
      refine wpAnyH_done (by kernel_rfl) ?_ _
      go_wp2
      go_ret
      exact ⟨rfl, BK.out⟩
end Go.Proofs.YtknjkakokcblnaaDoor
