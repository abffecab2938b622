/- 7 of this claim's texts, one behind the other. -/
import Derived.Test.YtimmoclemcnhnaaDoorPart3
import Derived.Test.YtimmoclemcnhnaaDoorPart4
import Derived.Test.YtimmoclemcnhnaaDoorShelfSortE
import Derived.Shelf.SlSortCmp.NoneTotal
import Derived.Test.YtimmoclemcnhnaaDoorPart1
import Derived.Deep.RegionHeld3
import Derived.Deep.DeepCutAuto
import Derived.Laws.ResultCell
/- slices.SortFunc at entries, by their order: what the row holds then. -/
namespace Go.Proofs.YtimmoclemcnhnaaDoor
open Go.RowKit Go.Sort Go.Lib

instance : Inhabited En := ⟨enNone⟩
theorem ltE (x y : En) : ltOf ordE x y = enLess x y := by
  have h := ordE_neg x y
  unfold ltOf
  cases hl : enLess x y with
  | true => rw [hl] at h; rw [decide_eq_true_iff]; have := of_decide_eq_false (h.trans rfl); omega
  | false => rw [hl] at h; rw [decide_eq_false_iff_not]; have := of_decide_eq_true (h.trans rfl); omega
theorem enLess_left {a b c : En} (h : a.ke.data.toList = b.ke.data.toList ∧ a.na.data.toList = b.na.data.toList) (hl : enLess a c = true) : enLess b c = true := by
  rw [enLess_iff] at *
  rw [← h.1, ← h.2]; exact hl
theorem swoE : SWO (ltOf ordE) where
  irrefl x := by rw [ltE]; exact enLess_irrefl x
  trans x y z h1 h2 := by rw [ltE] at *; exact enLess_trans h1 h2
  ntrans x y z h1 h2 := by
    rw [ltE] at *
    cases hz : enLess x z with
    | false => rfl
    | true =>
      exfalso
      cases hy : enLess y x with
      | true => have := enLess_trans hy hz; rw [h2] at this; cases this
      | false => have := enLess_left (enLess_same h1 hy) hz; rw [h2] at this; cases this
theorem cmpE (blk off n : Nat) (w : World) : CmpLays Tryd.prog 146 #[] enVals 3 ordE blk off n w := fun _ _ _ _ x y => entryOrder_any x y _
theorem flat_at (M : List En) (i o : Nat) (ho : o < 3) (hi : i < M.length) : (enVals (M.toArray[i]!))[o]! = enC (atE M i) o := by
  have e : M.toArray[i]! = atE M i := by simp [atE, hi]
  rw [e]
  match o, ho with
  | 0, _ => rfl
  | 1, _ => rfl
  | 2, _ => rfl
theorem holdsE {w : World} {g : Nat} {M : List En} (h : ∀ j, j < M.length → ∀ o, o < 3 → w.cell? ⟨g, j * 3 + o, none⟩ = some (enC (atE M j) o) ∧ w.frozen? ⟨g, j * 3 + o, none⟩ = false) : HoldsK enVals 3 w g 0 M.toArray := by
  intro t ht
  rw [size_flatK, List.size_toArray] at ht
  have h1 : t / 3 < M.length := by omega
  have h2 : t % 3 < 3 := Nat.mod_lt _ (by decide)
  have e : 0 + t = t / 3 * 3 + t % 3 := by omega
  rw [get_flatK _ _ _ _ (by rw [List.size_toArray]; exact ht), flat_at M _ _ h2 h1, e]
  exact h _ h1 _ h2
theorem sortW_below {w : World} {g n B : Nat} {d : Array En} {os : Array Obj} (hg : g < w.heap.size) (hB : B ≤ g) : Below B w (sortWorldK enVals 3 w g 0 n d os) := by
  refine ⟨rfl, rfl, rfl, size_sortWorldK_c _ _ _ _ _ _ _ _, fun k hk => ?_⟩
  unfold sortWorldK
  rw [heap_grow_old _ _ (by unfold putRowK; rw [size_putRow]; show k < w.heap.size; omega)]
  unfold putRowK putRow mapBlock
  show (w.heap.modify g _)[k]? = _
  rw [Array.getElem?_modify, if_neg (by omega)]
set_option maxRecDepth 10000 in
set_option maxHeartbeats 4000000 in
theorem sortE_any (M : List En) (v : Value) (B : Nat) (w : World) (ho : w.ownsRow B 108 3 v M.length (enCells M)) (hn : M.length ≤ 1048576) :
    Calls Tryd.prog 145 #[v, .func (.func 146) #[] #[]] w fun e w' => e = .returned (.tuple #[]) ∧ ∃ M' : List En, M'.Perm M ∧ (M'.Pairwise fun a b => enLess b a = false) ∧ SliceE w' B v M' ∧ Below B w w' := by
  have hs := sliceE_of_own ho
  obtain ⟨⟨p, cap, rfl, hc⟩, p2, c2, e2, hcap, hnc⟩ := hs
  injection e2 with e3 _ e4
  subst e3 e4
  by_cases h0 : 0 < M.length
  · obtain ⟨g, rfl, hB, hg, hcell⟩ := hc h0
    have eg : ∀ args w, (callFunc 146 args).run Tryd.prog w = .ok (.enter 146 args) w := enters_of Tryd.func146 (by kernel_rfl) rfl
    have hH : HoldsK enVals 3 w g 0 M.toArray := holdsE hcell
    have hcon := AnyQ.slices_SortFunc Tryd.laysSortE 3 Tryd.isAgg108 Tryd.sizeOf108 enVals (fun _ => rfl) one_En ordE swoE 146 #[] g 0 cap M.toArray w eg (cmpE g 0 M.toArray.size w) hH hg (by rw [List.size_toArray]; omega)
    have hcon2 : Calls Tryd.prog 145 #[.slice (some ⟨g, 0, none⟩) M.length cap, .func (.func 146) #[] #[]] w _ := hcon
    refine hcon2.mono ?_
    rintro e w' ⟨rfl, d', n, os, hp, hsrt, rfl⟩
    refine ⟨rfl, d'.toList, ?_, ?_, ?_, sortW_below hg hB⟩
    · have h3 := hp.2.2
      rw [Array.extract_eq_self_of_le (Nat.le_refl _), Array.extract_eq_self_of_le (Nat.le_of_eq hp.1)] at h3
      exact h3
    · rw [List.pairwise_iff_getElem]
      intro i j hi hj hij
      have hj' : j < d'.size := by simpa using hj
      have := hsrt i j (Nat.zero_le _) hij (by rw [← hp.1]; exact hj')
      rw [ltE, getElem!_pos d' i (by omega), getElem!_pos d' j hj'] at this
      simpa using this
    · have hlen : d'.toList.length = M.length := by rw [Array.length_toList, hp.1, List.size_toArray]
      have hh := holdsK_sortWorldK_c enVals 3 w g 0 M.toArray d' n os hH hg hp.1
      refine ⟨⟨_, cap, by rw [hlen], fun _ => ⟨g, rfl, hB, ?_, fun j hj o ho => ?_⟩⟩, _, cap, by rw [hlen], by rw [hlen]; exact hcap, fun h => by cases h⟩
      · exact Nat.lt_of_lt_of_le hg (size_sortWorldK_c _ _ _ _ _ _ _ _)
      · have hc3 := hh.cell (i := j) (c := o) (by simpa using hj) ho
        rw [Nat.zero_add] at hc3
        rw [hc3.1]
        refine ⟨?_, hc3.2⟩
        have := flat_at d'.toList j o ho hj
        rw [Array.toArray_toList] at this
        rw [this]; rfl
  · obtain rfl : M = [] := List.length_eq_zero_iff.1 (by omega)
    have hcon : Calls Tryd.prog 145 #[.slice p 0 cap, .func (.func 146) #[] #[]] w _ := AnyF.slices_SortFunc_none Tryd.laysSortE p cap (.func (.func 146) #[] #[]) w
    refine hcon.mono ?_
    rintro e w' ⟨rfl, rfl⟩
    exact ⟨rfl, [], List.Perm.nil, List.Pairwise.nil, ⟨⟨p, cap, rfl, fun h => absurd h (by simp)⟩, p, cap, rfl, Nat.zero_le _, hnc⟩, Below.refl _ _⟩
end Go.Proofs.YtimmoclemcnhnaaDoor

/- The walk of together: two texts put together in new memory. -/
namespace Go.Proofs.YtimmoclemcnhnaaDoor
open Go.RowKit


set_option maxRecDepth 10000 in
set_option maxHeartbeats 400000 in
theorem together_full (x y : ByteArray) (w : World) (hz : x.size + y.size ≤ 1000000) (hy : ¬ y = ByteArray.empty) :
    Calls Tryd.prog 58 #[.string x, .string y] w fun e w' => e = .returned (.string (x ++ y)) ∧ Below w.heap.size w w' := by
  obtain ⟨w1, Z, hmk, HG1, hZ, hs1, hb1⟩ := make_row (P := Tryd.prog) w 22 5 _ Tryd.underlying22 infoU8 ((x.size : Int) + (y.size : Int)) (x.size + y.size) (by omega) (by omega)
  go_enter Tryd.func58, Tryd.ntmps58
  go_wp2_with fail
  obtain ⟨w2, hc2, HG2, hs2, hB2⟩ := copy_text (P := Tryd.prog) w1 22 9 3 5 Tryd.underlying22 sizeU8 (some ⟨w.heap.size, 0, none⟩) (x.size + y.size) (x.size + y.size) x (by omega) w.heap.size 0 Z _ HG1 (fun _ => rfl) (by omega)
  have hb2 := hB2 _ _ hb1 (Nat.le_refl _)
  rw [hc2]
  clear hc2 hmk hB2 HG1 hb1
  go_wp2_with fail
  have hl2 : (splice Z 0 (Lib.byteCells x.data.toList)).length = x.size + y.size := by rw [length_splice _ _ _ (by rw [len_cells]; omega), hZ]
  obtain ⟨w3, hc3, HG3, hs3, hB3⟩ := copy_text (P := Tryd.prog) w2 22 9 3 5 Tryd.underlying22 sizeU8 (some ⟨w.heap.size, x.size, none⟩) y.size y.size y (by omega) w.heap.size x.size _ _ HG2 (fun _ => rfl) (by omega)
  have hb3 := hB3 _ _ hb2 (Nat.le_refl _)
  have HG4 : RowAt w3 w.heap.size 5 (Lib.byteCells (x.data.toList ++ y.data.toList) ++ []) := by
    have e := splice_two Z (Lib.byteCells x.data.toList) (Lib.byteCells y.data.toList) (by rw [len_cells, len_cells]; exact hZ)
    rw [len_cells] at e
    rw [e, ← byteCells_append, ← List.append_nil (Lib.byteCells _)] at HG3
    exact HG3
  rw [hc3]
  clear hc3 hB3 HG2 HG3 hb2 hl2
  go_wp2_with fail
  rw [text_of_row (P := Tryd.prog) w3 22 9 5 Tryd.underlying22 Tryd.underlying5 Tryd.underlying9 w.heap.size (x.size + y.size) (x.size + y.size) 5 _ _ HG4 (by rw [List.length_append, ← Lib.size_eq, ← Lib.size_eq])]
  go_wp2
  go_ret
  exact ⟨ret_text (text_append x y), hb3⟩

set_option maxRecDepth 10000 in
set_option maxHeartbeats 400000 in
theorem together_empty (x : ByteArray) (w : World) (hz : x.size ≤ 1000000) :
    Calls Tryd.prog 58 #[.string x, .string ByteArray.empty] w fun e w' => e = .returned (.string x) ∧ Below w.heap.size w w' := by
  obtain ⟨w1, Z, hmk, HG1, hZ, hs1, hb1⟩ := make_row (P := Tryd.prog) w 22 5 _ Tryd.underlying22 infoU8 (x.size : Int) x.size (by omega) (by omega)
  go_enter Tryd.func58, Tryd.ntmps58
  go_wp2_with fail
  obtain ⟨w2, hc2, HG2, hs2, hB2⟩ := copy_text (P := Tryd.prog) w1 22 9 3 5 Tryd.underlying22 sizeU8 (some ⟨w.heap.size, 0, none⟩) x.size x.size x (by omega) w.heap.size 0 Z _ HG1 (fun _ => rfl) (by omega)
  have hb2 := hB2 _ _ hb1 (Nat.le_refl _)
  rw [hc2]
  clear hc2 hmk hB2 HG1 hb1
  go_wp2_with fail
  have HG4 : RowAt w2 w.heap.size 5 (Lib.byteCells x.data.toList ++ []) := by
    have e : splice Z 0 (Lib.byteCells x.data.toList) = Lib.byteCells x.data.toList ++ [] := by
      unfold splice
      rw [List.drop_eq_nil_of_le (by rw [len_cells]; omega)]
      simp
    rw [e] at HG2
    exact HG2
  rw [Lib.run_copy_empty_string (P := Tryd.prog) w2 22 9 3 5 (some ⟨w.heap.size, 0, none⟩) 0 0 ByteArray.empty Tryd.underlying22 (by rw [Option.isSome_iff_exists]; exact ⟨1, sizeU8⟩) rfl]
  go_wp2_with fail
  rw [text_of_row (P := Tryd.prog) w2 22 9 5 Tryd.underlying22 Tryd.underlying5 Tryd.underlying9 w.heap.size x.size x.size 5 _ _ HG4 (by rw [← Lib.size_eq])]
  go_wp2
  go_ret
  exact ⟨rfl, hb2⟩
theorem together_any (x y : ByteArray) (w : World) (hz : x.size + y.size ≤ 1000000) :
    Calls Tryd.prog 58 #[.string x, .string y] w fun e w' => e = .returned (.string (x ++ y)) ∧ Below w.heap.size w w' := by
  by_cases hy : y = ByteArray.empty
  · subst hy
    rw [ByteArray.append_empty]
    exact together_empty x w (by omega)
  · exact together_full x y w hz hy

end Go.Proofs.YtimmoclemcnhnaaDoor

/- The walk of the program's entryCopy. -/
namespace Go.Proofs.YtimmoclemcnhnaaDoor
open Go.RowKit

set_option maxRecDepth 10000 in
set_option maxHeartbeats 8000000 in
theorem entryCopy_any (c : En) (w : World) (h0 : c.ke.size ≤ 200) (h1 : c.na.size ≤ 200) (h2 : c.va.size ≤ 200) :
    Calls Tryd.prog 144 #[enV c] w fun e w' => e = .returned (enV c) ∧ Below w.heap.size w w' := by
  obtain ⟨ke, na, va⟩ := c
  unfold enV
  dsimp only at h0 h1 h2 ⊢
  have K0 : Hid (∀ W, Calls Tryd.prog 58 #[.string ke, .string ⟨#[]⟩] W fun e w' => e = .returned (.string ke) ∧ Below W.heap.size W w') := fun W => together_empty ke W (by omega)
  have K1 : Hid (∀ W, Calls Tryd.prog 58 #[.string na, .string ⟨#[]⟩] W fun e w' => e = .returned (.string na) ∧ Below W.heap.size W w') := fun W => together_empty na W (by omega)
  have K2 : Hid (∀ W, Calls Tryd.prog 58 #[.string va, .string ⟨#[]⟩] W fun e w' => e = .returned (.string va) ∧ Below W.heap.size W w') := fun W => together_empty va W (by omega)
  obtain ⟨W0, hW⟩ : ∃ W0, W0 = ((w.alloc (.cells #[.string ke, .string na, .string va] 108)).alloc (.cells #[.string ⟨#[]⟩, .string ⟨#[]⟩, .string ⟨#[]⟩] 108)) := ⟨_, rfl⟩
  have hW0 : Hid (W0 = ((w.alloc (.cells #[.string ke, .string na, .string va] 108)).alloc (.cells #[.string ⟨#[]⟩, .string ⟨#[]⟩, .string ⟨#[]⟩] 108))) := hW
  have HB : Hid (Below w.heap.size w W0) := by show Below _ _ _; rw [hW]; exact ((Below.refl _ _).alloc (Nat.le_refl _) _).alloc (by simp) _
  have z1 : w.heap.size + 1 < W0.heap.size := by rw [hW]; simp
  have c0 : W0.cell? ⟨w.heap.size, 0, none⟩ = some (.string ke) := by rw [hW]; simp
  have c1 : W0.cell? ⟨w.heap.size, 1, none⟩ = some (.string na) := by rw [hW]; simp
  have c2 : W0.cell? ⟨w.heap.size, 2, none⟩ = some (.string va) := by rw [hW]; simp
  have d0 : W0.cell? ⟨w.heap.size + 1, 0, none⟩ = some (.string ⟨#[]⟩) := by rw [hW]; exact (World.cell?_alloc_at _ _ _ _ (by simp)).trans rfl
  have d1 : W0.cell? ⟨w.heap.size + 1, 1, none⟩ = some (.string ⟨#[]⟩) := by rw [hW]; exact (World.cell?_alloc_at _ _ _ _ (by simp)).trans rfl
  have d2 : W0.cell? ⟨w.heap.size + 1, 2, none⟩ = some (.string ⟨#[]⟩) := by rw [hW]; exact (World.cell?_alloc_at _ _ _ _ (by simp)).trans rfl
  have fz : ∀ o, W0.frozen? ⟨w.heap.size + 1, o, none⟩ = false := by rw [hW]; exact fun o => World.frozen?_alloc_at _ _ _ _ (by simp)
  have f0 := fz 0
  have f1 := fz 1
  have f2 := fz 2
  clear hW h0 h1 h2 fz
  go_enter Tryd.func144, Tryd.ntmps144
  go_upto_region 1 with fail
  rw [← hW0.out]
  clear hW0
  generalize hbb : w.heap.size = b at *
  have hb1 : b < W0.heap.size := by omega
  refine wp_region_held_drew (S := (fun w' => w'.cell? ⟨b, 0, none⟩ = some (.string ke) ∧ w'.cell? ⟨b, 1, none⟩ = some (.string na) ∧ w'.cell? ⟨b, 2, none⟩ = some (.string va))) (by kernel_rfl) ?_ (fun hH0 => ?_)
  · (try dsimp only)
    go_keep
  refine wpAnyH_take (i := 0) (oi := { dst := some 3, op := Op.fieldAddr 108 (Operand.tmp 1) 0, type := 0, pos := "l07_area.go:99", after := #[], guard := none }) (v := ?va0) rfl (by kernel_rfl) (by kernel_rfl) (by kernel_rfl) (fun _ _ _ h => h) (Or.inl ⟨by rfl, ?hya0⟩) (by assumption) ?resta0
  case hya0 =>
    intro w hSw
    (try dsimp only at hSw)
    go_simp
    try with_reducible rfl
  try simp only [Act.put, List.setIfInBounds_toArray, List.set_cons_zero, List.set_cons_succ]
  refine wpAnyH_take (i := 1) (oi := { dst := some 4, op := Op.load 9 (Operand.tmp 3), type := 9, pos := "l07_area.go:99", after := #[{ on := 0, ground := Ground.data }], guard := none }) (v := ?va1) rfl (by kernel_rfl) (by kernel_rfl) (by kernel_rfl) (fun _ _ _ h => h) (Or.inl ⟨by rfl, ?hya1⟩) (by assumption) ?resta1
  case hya1 =>
    intro w hSw
    (try dsimp only at hSw)
    go_simp
    try with_reducible rfl
  try simp only [Act.put, List.setIfInBounds_toArray, List.set_cons_zero, List.set_cons_succ]
  refine wpAnyH_take (i := 3) (oi := { dst := some 6, op := Op.fieldAddr 108 (Operand.tmp 1) 1, type := 0, pos := "l07_area.go:99", after := #[], guard := none }) (v := ?va3) rfl (by kernel_rfl) (by kernel_rfl) (by kernel_rfl) (fun _ _ _ h => h) (Or.inl ⟨by rfl, ?hya3⟩) (by assumption) ?resta3
  case hya3 =>
    intro w hSw
    (try dsimp only at hSw)
    go_simp
    try with_reducible rfl
  try simp only [Act.put, List.setIfInBounds_toArray, List.set_cons_zero, List.set_cons_succ]
  refine wpAnyH_take (i := 4) (oi := { dst := some 7, op := Op.load 9 (Operand.tmp 6), type := 9, pos := "l07_area.go:99", after := #[{ on := 3, ground := Ground.data }], guard := none }) (v := ?va4) rfl (by kernel_rfl) (by kernel_rfl) (by kernel_rfl) (fun _ _ _ h => h) (Or.inl ⟨by rfl, ?hya4⟩) (by assumption) ?resta4
  case hya4 =>
    intro w hSw
    (try dsimp only at hSw)
    go_simp
    try with_reducible rfl
  try simp only [Act.put, List.setIfInBounds_toArray, List.set_cons_zero, List.set_cons_succ]
  refine wpAnyH_take (i := 6) (oi := { dst := some 9, op := Op.fieldAddr 108 (Operand.tmp 1) 2, type := 0, pos := "l07_area.go:99", after := #[], guard := none }) (v := ?va6) rfl (by kernel_rfl) (by kernel_rfl) (by kernel_rfl) (fun _ _ _ h => h) (Or.inl ⟨by rfl, ?hya6⟩) (by assumption) ?resta6
  case hya6 =>
    intro w hSw
    (try dsimp only at hSw)
    go_simp
    try with_reducible rfl
  try simp only [Act.put, List.setIfInBounds_toArray, List.set_cons_zero, List.set_cons_succ]
  refine wpAnyH_take (i := 7) (oi := { dst := some 10, op := Op.load 9 (Operand.tmp 9), type := 9, pos := "l07_area.go:99", after := #[{ on := 6, ground := Ground.data }], guard := none }) (v := ?va7) rfl (by kernel_rfl) (by kernel_rfl) (by kernel_rfl) (fun _ _ _ h => h) (Or.inl ⟨by rfl, ?hya7⟩) (by assumption) ?resta7
  case hya7 =>
    intro w hSw
    (try dsimp only at hSw)
    go_simp
    try with_reducible rfl
  try simp only [Act.put, List.setIfInBounds_toArray, List.set_cons_zero, List.set_cons_succ]
  refine wpAnyH_ready (rs := [2]) (by kernel_rfl) (by simp) ?_
  refine AllReadyH.cons (o := { dst := some 5, op := Op.call { callee := Callee.value (Operand.func 58), args := #[Operand.tmp 4, Operand.const (Value.string { data := #[] })], argTypes := #[9, 9] }, type := 9, pos := "l07_area.go:99", after := #[{ on := 1, ground := Ground.data }], guard := none }) rfl (fun K hK => ?_) AllReadyH.nil
  go_simp
  (go_at_call 58; refine (K0.out _).mono ?_; rintro e w1 ⟨rfl, hq1⟩; have A1 : Below W0.heap.size W0 w1 := (Below.drew (Below.refl _ _)).trans hq1; have x0 : w1.cell? ⟨b, 0, none⟩ = some (.string ke) := ((bcell A1).1 _ _ hb1).trans c0; have x1 : w1.cell? ⟨b, 1, none⟩ = some (.string na) := ((bcell A1).1 _ _ hb1).trans c1; have x2 : w1.cell? ⟨b, 2, none⟩ = some (.string va) := ((bcell A1).1 _ _ hb1).trans c2)
  try (go_wp2_with fail)
  refine hK.out _ _ ?_ (fun hH1 => ?_)
  · (try dsimp only)
    go_keep
  clear hK K hH0
  try simp only [Act.put, List.setIfInBounds_toArray, List.set_cons_zero, List.set_cons_succ]
  refine wpAnyH_ready (rs := [5]) (by kernel_rfl) (by simp) ?_
  refine AllReadyH.cons (o := { dst := some 8, op := Op.call { callee := Callee.value (Operand.func 58), args := #[Operand.tmp 7, Operand.const (Value.string { data := #[] })], argTypes := #[9, 9] }, type := 9, pos := "l07_area.go:99", after := #[{ on := 4, ground := Ground.data }, { on := 2, ground := Ground.chain }], guard := none }) rfl (fun K hK => ?_) AllReadyH.nil
  go_simp
  (go_at_call 58; refine (K1.out _).mono ?_; rintro e w2 ⟨rfl, hq2⟩; have A2 : Below W0.heap.size W0 w2 := A1.trans (hq2.mono A1.size); have y0 : w2.cell? ⟨b, 0, none⟩ = some (.string ke) := ((bcell A2).1 _ _ hb1).trans c0; have y1 : w2.cell? ⟨b, 1, none⟩ = some (.string na) := ((bcell A2).1 _ _ hb1).trans c1; have y2 : w2.cell? ⟨b, 2, none⟩ = some (.string va) := ((bcell A2).1 _ _ hb1).trans c2)
  try (go_wp2_with fail)
  refine hK.out _ _ ?_ (fun hH2 => ?_)
  · (try dsimp only)
    go_keep
  clear hK K hH1
  try simp only [Act.put, List.setIfInBounds_toArray, List.set_cons_zero, List.set_cons_succ]
  refine wpAnyH_ready (rs := [8]) (by kernel_rfl) (by simp) ?_
  refine AllReadyH.cons (o := { dst := some 11, op := Op.call { callee := Callee.value (Operand.func 58), args := #[Operand.tmp 10, Operand.const (Value.string { data := #[] })], argTypes := #[9, 9] }, type := 9, pos := "l07_area.go:99", after := #[{ on := 7, ground := Ground.data }, { on := 5, ground := Ground.chain }], guard := none }) rfl (fun K hK => ?_) AllReadyH.nil
  go_simp
  (go_at_call 58; refine (K2.out _).mono ?_; rintro e w3 ⟨rfl, hq3⟩; have A3 : Below W0.heap.size W0 w3 := A2.trans (hq3.mono A2.size); have y0 : w3.cell? ⟨b, 0, none⟩ = some (.string ke) := ((bcell A3).1 _ _ hb1).trans c0; have y1 : w3.cell? ⟨b, 1, none⟩ = some (.string na) := ((bcell A3).1 _ _ hb1).trans c1; have y2 : w3.cell? ⟨b, 2, none⟩ = some (.string va) := ((bcell A3).1 _ _ hb1).trans c2; have r0 : w3.cell? ⟨b + 1, 0, none⟩ = some (.string ⟨#[]⟩) := ((bcell A3).1 _ _ z1).trans d0; have r1 : w3.cell? ⟨b + 1, 1, none⟩ = some (.string ⟨#[]⟩) := ((bcell A3).1 _ _ z1).trans d1; have r2 : w3.cell? ⟨b + 1, 2, none⟩ = some (.string ⟨#[]⟩) := ((bcell A3).1 _ _ z1).trans d2; have s0 : w3.frozen? ⟨b + 1, 0, none⟩ = false := ((bcell A3).2 _ _ z1).trans f0; have s1 : w3.frozen? ⟨b + 1, 1, none⟩ = false := ((bcell A3).2 _ _ z1).trans f1; have s2 : w3.frozen? ⟨b + 1, 2, none⟩ = false := ((bcell A3).2 _ _ z1).trans f2)
  try (go_wp2_with fail)
  refine hK.out _ _ ?_ (fun hH3 => ?_)
  · (try dsimp only)
    go_keep
  clear hK K hH2
  try simp only [Act.put, List.setIfInBounds_toArray, List.set_cons_zero, List.set_cons_succ]
  refine wpAnyH_take (i := 9) (oi := { dst := some 12, op := Op.build 108 #[(0, Operand.tmp 5), (1, Operand.tmp 8), (2, Operand.tmp 11)], type := 108, pos := "l07_area.go:99", after := #[{ on := 2, ground := Ground.data }, { on := 5, ground := Ground.data }, { on := 8, ground := Ground.data }], guard := none }) (v := ?va9) rfl (by kernel_rfl) (by kernel_rfl) (by kernel_rfl) (fun _ _ _ h => h) (Or.inl ⟨by rfl, ?hya9⟩) (by assumption) ?resta9
  case hya9 =>
    intro w hSw
    (try dsimp only at hSw)
    go_simp
    try with_reducible rfl
  try simp only [Act.put, List.setIfInBounds_toArray, List.set_cons_zero, List.set_cons_succ]
  refine wpAnyH_ready (rs := [10]) (by kernel_rfl) (by simp) ?_
  refine AllReadyH.cons (o := { dst := none, op := Op.store 108 (Operand.tmp 2) (Operand.tmp 12), type := 0, pos := "l07_area.go:99", after := #[{ on := 9, ground := Ground.data }, { on := 8, ground := Ground.chain }, { on := 0, ground := Ground.phase }, { on := 1, ground := Ground.phase }, { on := 2, ground := Ground.phase }, { on := 3, ground := Ground.phase }, { on := 4, ground := Ground.phase }, { on := 5, ground := Ground.phase }, { on := 6, ground := Ground.phase }, { on := 7, ground := Ground.phase }, { on := 8, ground := Ground.phase }, { on := 9, ground := Ground.phase }], guard := none }) rfl (fun K hK => ?_) AllReadyH.nil
  go_simp
  (skip)
  try (go_wp2_with fail)
  refine hK.out _ _ ?_ (fun hH4 => ?_)
  · (try dsimp only)
    go_keep
  clear hK K hH3
  try simp only [Act.put, List.setIfInBounds_toArray, List.set_cons_zero, List.set_cons_succ]
  refine wpAnyH_done (by kernel_rfl) ?_ _
  all_goals go_wp2
  all_goals
    refine bodyPost_ret (v := .agg #[.string ke, .string na, .string va]) (by simp [results, Tryd.results144, go_sem, r0, r1, r2]) rfl ⟨rfl, ?_⟩
    have hB3 : Below b w w3 := HB.out.trans (A3.mono (by omega))
    rw [hbb]
    refine Below.setCell (Below.setCell (Below.setCell hB3 ?_ _) ?_ _) ?_ _ <;> exact Nat.le_add_right b 1
end Go.Proofs.YtimmoclemcnhnaaDoor

/- The walk of the program's AreaRight. Written by implarea.py. -/
namespace Go.Proofs.YtimmoclemcnhnaaDoor
open Go.RowKit

/-- what is used at the head of a round -/
def runTo (L : List En) : Nat → Nat
  | 0 => 0
  | k + 1 => runU L k
def okT (L : List En) (i : Nat) : Prop := enB (atE L i) = true ∧ riseB L i = true ∧ runU L i ≤ 60
theorem okT_succ {L : List En} {k : Nat} (h : ∀ i, i < k → okT L i) (hk : okT L k) : ∀ i, i < k + 1 → okT L i := by
  intro i hi
  by_cases e : i = k
  · subst e; exact hk
  · exact h i (by omega)
set_option maxRecDepth 10000 in
set_option maxHeartbeats 8000000 in
theorem areaRight_any (v : Value) (L : List En) (B : Nat) (w : World) (hs : SliceE w B v L) (hn : L.length ≤ 1048576) (hz : ∀ i, i < L.length → (atE L i).na.size ≤ 1048576 ∧ (atE L i).va.size ≤ 1048576) :
    Calls Tryd.prog 143 #[v] w fun e w' => e = .returned (.bool (areaB L)) ∧ Below w.heap.size w w' := by
  have HLong : Hid (16 < L.length → areaB L = false) := areaB_long
  have HAll : Hid (L.length ≤ 16 → (∀ i, i < L.length → okT L i) → areaB L = true) := fun h h2 => area_runs h h2
  have HBad : Hid (∀ i, i < L.length → (enB (atE L i) && riseB L i) = false → areaB L = false) := fun i h hi => area_bad h hi
  have HOver : Hid (∀ i, i < L.length → (∀ j, j < i + 1 → riseB L j = true) → 60 < runU L i → areaB L = false) := fun i h h2 h3 => area_over h h2 h3
  have HZ : Hid (∀ i, i < L.length → (atE L i).na.size ≤ 1048576 ∧ (atE L i).va.size ≤ 1048576) := hz
  obtain ⟨⟨p, cap, rfl, hg⟩, -⟩ := hs
  have HG : Hid (0 < L.length → ∃ g, p = some ⟨g, 0, none⟩ ∧ g < w.heap.size ∧ ∀ j, j < L.length → ∀ o, o < 3 → w.cell? ⟨g, j * 3 + o, none⟩ = some (enC (atE L j) o)) := fun h0 => by
    obtain ⟨g, e, -, hgw, hc⟩ := hg h0
    exact ⟨g, e, hgw, fun j hj o ho => (hc j hj o ho).1⟩
  clear hg hz
  generalize areaB L = R at *
  by_cases h16 : 16 < L.length
  · have HQ : Hid (R = false) := HLong.out h16
    have q0 : decide ((16 : Int) < (L.length : Int)) = true := by rw [decide_eq_true_iff]; omega
    go_enter Tryd.func143, Tryd.ntmps143
    go_wp2
    go_ret
    exact ⟨ret_bool HQ.out.symm, Below.refl _ _⟩
  have q0 : decide ((16 : Int) < (L.length : Int)) = false := by rw [decide_eq_false_iff_not]; omega
  have HAll2 : Hid ((∀ i, i < L.length → okT L i) → R = true) := HAll.out (by omega)
  clear HAll HLong
  go_enter Tryd.func143, Tryd.ntmps143
  go_wp2
  go_loopw [3, 11] (fun n i wr => ∃ k : Nat, k ≤ L.length ∧ n = .int .i64 (runTo L k : Int) ∧ i = .int .i64 k ∧ runTo L k ≤ 60 ∧ Hid (∀ j, j < k → okT L j) ∧ Hid (Below w.heap.size w wr)) (fun _ i _ => L.length - (intOf i).toNat)
  case atStart => exact ⟨0, Nat.zero_le _, rfl, rfl, Nat.zero_le _, fun j hj => absurd hj (by omega), Below.refl _ _⟩
  case round =>
    obtain ⟨k, hk, rfl, rfl, hu, HR, HB⟩ := hrel
    by_cases hlt : k < L.length
    · obtain ⟨g, rfl, hgw, hc⟩ := HG.out (by omega)
      have HC : Hid (∀ j, j < L.length → ∀ o, o < 3 → wr.cell? ⟨g, j * 3 + o, none⟩ = some (enC (atE L j) o)) := fun j hj o ho => by rw [(bcell HB.out).1 _ _ hgw]; exact hc j hj o ho
      have hgr : g < wr.heap.size := Nat.lt_of_lt_of_le hgw HB.out.size
      have k0 : (0 : Int) ≤ k := by omega
      have k1 : (k : Int) < L.length := by omega
      have hz1 := (HZ.out k hlt).1
      have HBk : Hid ((enB (atE L k) && riseB L k) = false → R = false) := HBad.out k hlt
      have e0 : wr.cell? ⟨g, k * 3, none⟩ = some (.string (atE L k).ke) := HC.out k hlt 0 (by omega)
      have e1 : wr.cell? ⟨g, k * 3 + 1, none⟩ = some (.string (atE L k).na) := HC.out k hlt 1 (by omega)
      have e2 : wr.cell? ⟨g, k * 3 + 2, none⟩ = some (.string (atE L k).va) := HC.out k hlt 2 (by omega)
      have KE0 : Hid (∀ W, Calls Tryd.prog 188 #[enV (atE L k)] W fun r w' => r = .returned (.bool (enB (atE L k))) ∧ Below W.heap.size W w') := fun W => entryRight_any _ W hz1
      have KB0 : Hid (∀ W, Calls Tryd.prog 189 #[enV (atE L k)] W fun r w' => r = .returned (.int .i64 (enN (atE L k) : Int)) ∧ Below W.heap.size W w') := fun W => entryBytes_any _ W (HZ.out k hlt)
      have hNb : enN (atE L k) ≤ 2097152 := by have := HZ.out k hlt; unfold enN; omega
      clear hc HG HBad hz1
      cases hkb : enB (atE L k) with
      | false =>
        have HQ : Hid (R = false) := HBk.out (by rw [hkb]; rfl)
        rw [hkb] at KE0
        clear hkb HBk KB0 HZ HC hNb HOver HR hu
        generalize runTo L k = u at *
        generalize atE L k = y at *
        obtain ⟨ke, na, va⟩ := y
        unfold enV at KE0
        dsimp only at *
        have KE : Hid (∀ W, Calls Tryd.prog 188 #[.agg #[.string ke, .string na, .string va]] W fun r w' => r = .returned (.bool false) ∧ Below W.heap.size W w') := KE0
        clear KE0
        obtain ⟨W0, hW⟩ : ∃ W0, W0 = wr.alloc (.cells #[.string ke, .string na, .string va] 108) := ⟨_, rfl⟩
        have hW0 : Hid (W0 = wr.alloc (.cells #[.string ke, .string na, .string va] 108)) := hW
        have HBW : Hid (Below w.heap.size w W0) := by show Below _ _ _; rw [hW]; exact HB.out.alloc HB.out.size _
        have HBr : Hid (Below wr.heap.size wr W0) := by show Below _ _ _; rw [hW]; exact (Below.refl _ _).alloc (Nat.le_refl _) _
        have c0 : W0.cell? ⟨wr.heap.size, 0, none⟩ = some (.string ke) := by rw [hW]; simp
        have c1 : W0.cell? ⟨wr.heap.size, 1, none⟩ = some (.string na) := by rw [hW]; simp
        have c2 : W0.cell? ⟨wr.heap.size, 2, none⟩ = some (.string va) := by rw [hW]; simp
        have hbW : wr.heap.size < W0.heap.size := by rw [hW]; simp
        have hgW : g < W0.heap.size := Nat.lt_trans hgr hbW
        clear hW
        go_wp2_with fail
        rw [← hW0.out]
        clear hW0
        generalize hbb : wr.heap.size = b at *
        clear hbb HBr HB e0 e1 e2 
        refine wp_region_held_drew (S := (fun w' => w'.cell? ⟨b, 0, none⟩ = some (.string ke) ∧ w'.cell? ⟨b, 1, none⟩ = some (.string na) ∧ w'.cell? ⟨b, 2, none⟩ = some (.string va))) (by kernel_rfl) ?_ (fun hH0 => ?_)
        · (try dsimp only)
          go_keep
        refine wpAnyH_take (i := 0) (oi := { dst := some 16, op := Op.load 108 (Operand.tmp 5), type := 108, pos := "l07_area.go:61", after := #[], guard := none }) (v := ?va0) rfl (by kernel_rfl) (by kernel_rfl) (by kernel_rfl) (fun _ _ _ h => h) (Or.inl ⟨by rfl, ?hya0⟩) (by assumption) ?resta0
        case hya0 =>
          intro w hSw
          (try dsimp only at hSw)
          go_simp
          try with_reducible rfl
        try simp only [Act.put, List.setIfInBounds_toArray, List.set_cons_zero, List.set_cons_succ]
        refine wpAnyH_ready (rs := [1]) (by kernel_rfl) (by simp) ?_
        refine AllReadyH.cons (o := { dst := some 17, op := Op.call { callee := Callee.value (Operand.func 188), args := #[Operand.tmp 16], argTypes := #[108] }, type := 4, pos := "l07_area.go:61", after := #[{ on := 0, ground := Ground.data }], guard := none }) rfl (fun K hK => ?_) AllReadyH.nil
        go_simp
        (go_at_call 188; refine (KE.out _).mono ?_; rintro e w2 ⟨rfl, hb2⟩; have A2 : Below W0.heap.size W0 w2 := (Below.drew (Below.refl _ _)).trans hb2; have x0 : w2.cell? ⟨b, 0, none⟩ = some (.string ke) := ((bcell A2).1 _ _ hbW).trans c0; have x1 : w2.cell? ⟨b, 1, none⟩ = some (.string na) := ((bcell A2).1 _ _ hbW).trans c1; have x2 : w2.cell? ⟨b, 2, none⟩ = some (.string va) := ((bcell A2).1 _ _ hbW).trans c2)
        try (go_wp2_with fail)
        refine hK.out _ _ ?_ (fun hH1 => ?_)
        · (try dsimp only)
          go_keep
        clear hK K hH0
        try simp only [Act.put, List.setIfInBounds_toArray, List.set_cons_zero, List.set_cons_succ]
        refine wpAnyH_take (i := 2) (oi := { dst := some 18, op := Op.unOp UnOp.not 4 (Operand.tmp 17), type := 4, pos := "l07_area.go:61", after := #[{ on := 1, ground := Ground.data }], guard := none }) (v := ?va2) rfl (by kernel_rfl) (by kernel_rfl) (by kernel_rfl) (fun _ _ _ h => h) (Or.inl ⟨by rfl, ?hya2⟩) (by assumption) ?resta2
        case hya2 =>
          intro w hSw
          (try dsimp only at hSw)
          go_simp
          try with_reducible rfl
        try simp only [Act.put, List.setIfInBounds_toArray, List.set_cons_zero, List.set_cons_succ]
        refine wpAnyH_take (i := 3) (oi := { dst := some 19, op := Op.move (Operand.tmp 18), type := 4, pos := "l07_area.go:61", after := #[{ on := 2, ground := Ground.data }, { on := 1, ground := Ground.chain }], guard := none }) (v := ?va3) rfl (by kernel_rfl) (by kernel_rfl) (by kernel_rfl) (fun _ _ _ h => h) (Or.inl ⟨by rfl, ?hya3⟩) (by assumption) ?resta3
        case hya3 =>
          intro w hSw
          (try dsimp only at hSw)
          go_simp
          try with_reducible rfl
        try simp only [Act.put, List.setIfInBounds_toArray, List.set_cons_zero, List.set_cons_succ]
        refine wpAnyH_take (i := 4) (oi := { dst := some 20, op := Op.move (Operand.tmp 4), type := 3, pos := "l07_area.go:61", after := #[{ on := 3, ground := Ground.guard }], guard := some (3, false) }) (v := undef) rfl (by kernel_rfl) (by kernel_rfl) (by kernel_rfl) (fun _ _ _ h => h) (Or.inr ⟨by rfl, rfl⟩) (by assumption) ?_
        try simp only [Act.put, List.setIfInBounds_toArray, List.set_cons_zero, List.set_cons_succ]
        refine wpAnyH_take (i := 5) (oi := { dst := some 21, op := Op.binOp BinOp.gtr 3 (Operand.tmp 20) (Operand.const (Value.int IntKind.i64 0)) 3, type := 4, pos := "l07_area.go:61", after := #[{ on := 4, ground := Ground.data }, { on := 3, ground := Ground.guard }], guard := some (3, false) }) (v := undef) rfl (by kernel_rfl) (by kernel_rfl) (by kernel_rfl) (fun _ _ _ h => h) (Or.inr ⟨by rfl, rfl⟩) (by assumption) ?_
        try simp only [Act.put, List.setIfInBounds_toArray, List.set_cons_zero, List.set_cons_succ]
        refine wpAnyH_take (i := 6) (oi := { dst := some 22, op := Op.move (Operand.tmp 21), type := 4, pos := "l07_area.go:61", after := #[{ on := 5, ground := Ground.data }, { on := 3, ground := Ground.chain }, { on := 3, ground := Ground.guard }], guard := some (3, false) }) (v := undef) rfl (by kernel_rfl) (by kernel_rfl) (by kernel_rfl) (fun _ _ _ h => h) (Or.inr ⟨by rfl, rfl⟩) (by assumption) ?_
        try simp only [Act.put, List.setIfInBounds_toArray, List.set_cons_zero, List.set_cons_succ]
        refine wpAnyH_take (i := 7) (oi := { dst := some 23, op := Op.move (Operand.tmp 0), type := 54, pos := "l07_area.go:61", after := #[{ on := 6, ground := Ground.guard }], guard := some (6, true) }) (v := undef) rfl (by kernel_rfl) (by kernel_rfl) (by kernel_rfl) (fun _ _ _ h => h) (Or.inr ⟨by rfl, rfl⟩) (by assumption) ?_
        try simp only [Act.put, List.setIfInBounds_toArray, List.set_cons_zero, List.set_cons_succ]
        refine wpAnyH_take (i := 8) (oi := { dst := some 24, op := Op.move (Operand.tmp 4), type := 3, pos := "l07_area.go:61", after := #[{ on := 6, ground := Ground.guard }], guard := some (6, true) }) (v := undef) rfl (by kernel_rfl) (by kernel_rfl) (by kernel_rfl) (fun _ _ _ h => h) (Or.inr ⟨by rfl, rfl⟩) (by assumption) ?_
        try simp only [Act.put, List.setIfInBounds_toArray, List.set_cons_zero, List.set_cons_succ]
        refine wpAnyH_take (i := 9) (oi := { dst := some 25, op := Op.binOp BinOp.sub 3 (Operand.tmp 24) (Operand.const (Value.int IntKind.i64 1)) 3, type := 3, pos := "l07_area.go:61", after := #[{ on := 8, ground := Ground.data }, { on := 6, ground := Ground.guard }], guard := some (6, true) }) (v := undef) rfl (by kernel_rfl) (by kernel_rfl) (by kernel_rfl) (fun _ _ _ h => h) (Or.inr ⟨by rfl, rfl⟩) (by assumption) ?_
        try simp only [Act.put, List.setIfInBounds_toArray, List.set_cons_zero, List.set_cons_succ]
        refine wpAnyH_take (i := 10) (oi := { dst := some 26, op := Op.indexAddr 54 (Operand.tmp 23) (Operand.tmp 25), type := 0, pos := "l07_area.go:61", after := #[{ on := 7, ground := Ground.data }, { on := 9, ground := Ground.data }, { on := 6, ground := Ground.guard }], guard := some (6, true) }) (v := undef) rfl (by kernel_rfl) (by kernel_rfl) (by kernel_rfl) (fun _ _ _ h => h) (Or.inr ⟨by rfl, rfl⟩) (by assumption) ?_
        try simp only [Act.put, List.setIfInBounds_toArray, List.set_cons_zero, List.set_cons_succ]
        refine wpAnyH_take (i := 11) (oi := { dst := some 27, op := Op.load 108 (Operand.tmp 26), type := 108, pos := "l07_area.go:61", after := #[{ on := 10, ground := Ground.data }, { on := 6, ground := Ground.guard }], guard := some (6, true) }) (v := undef) rfl (by kernel_rfl) (by kernel_rfl) (by kernel_rfl) (fun _ _ _ h => h) (Or.inr ⟨by rfl, rfl⟩) (by assumption) ?_
        try simp only [Act.put, List.setIfInBounds_toArray, List.set_cons_zero, List.set_cons_succ]
        refine wpAnyH_take (i := 12) (oi := { dst := some 28, op := Op.load 108 (Operand.tmp 5), type := 108, pos := "l07_area.go:61", after := #[{ on := 6, ground := Ground.guard }], guard := some (6, true) }) (v := undef) rfl (by kernel_rfl) (by kernel_rfl) (by kernel_rfl) (fun _ _ _ h => h) (Or.inr ⟨by rfl, rfl⟩) (by assumption) ?_
        try simp only [Act.put, List.setIfInBounds_toArray, List.set_cons_zero, List.set_cons_succ]
        refine wpAnyH_take (i := 13) (oi := { dst := some 29, op := Op.call { callee := Callee.value (Operand.func 146), args := #[Operand.tmp 27, Operand.tmp 28], argTypes := #[108, 108] }, type := 3, pos := "l07_area.go:61", after := #[{ on := 11, ground := Ground.data }, { on := 12, ground := Ground.data }, { on := 6, ground := Ground.chain }, { on := 6, ground := Ground.guard }], guard := some (6, true) }) (v := undef) rfl (by kernel_rfl) (by kernel_rfl) (by kernel_rfl) (fun _ _ _ h => h) (Or.inr ⟨by rfl, rfl⟩) (by assumption) ?_
        try simp only [Act.put, List.setIfInBounds_toArray, List.set_cons_zero, List.set_cons_succ]
        refine wpAnyH_take (i := 14) (oi := { dst := some 30, op := Op.binOp BinOp.geq 3 (Operand.tmp 29) (Operand.const (Value.int IntKind.i64 0)) 3, type := 4, pos := "l07_area.go:61", after := #[{ on := 13, ground := Ground.data }, { on := 6, ground := Ground.guard }], guard := some (6, true) }) (v := undef) rfl (by kernel_rfl) (by kernel_rfl) (by kernel_rfl) (fun _ _ _ h => h) (Or.inr ⟨by rfl, rfl⟩) (by assumption) ?_
        try simp only [Act.put, List.setIfInBounds_toArray, List.set_cons_zero, List.set_cons_succ]
        refine wpAnyH_take (i := 15) (oi := { dst := some 31, op := Op.pick (Operand.tmp 22) (Operand.tmp 30) (Operand.const (Value.bool false)), type := 4, pos := "l07_area.go:61", after := #[{ on := 6, ground := Ground.data }, { on := 14, ground := Ground.data }, { on := 3, ground := Ground.guard }], guard := some (3, false) }) (v := undef) rfl (by kernel_rfl) (by kernel_rfl) (by kernel_rfl) (fun _ _ _ h => h) (Or.inr ⟨by rfl, rfl⟩) (by assumption) ?_
        try simp only [Act.put, List.setIfInBounds_toArray, List.set_cons_zero, List.set_cons_succ]
        refine wpAnyH_take (i := 16) (oi := { dst := some 32, op := Op.pick (Operand.tmp 19) (Operand.const (Value.bool true)) (Operand.tmp 31), type := 4, pos := "l07_area.go:61", after := #[{ on := 3, ground := Ground.data }, { on := 15, ground := Ground.data }], guard := none }) (v := ?va16) rfl (by kernel_rfl) (by kernel_rfl) (by kernel_rfl) (fun _ _ _ h => h) (Or.inl ⟨by rfl, ?hya16⟩) (by assumption) ?resta16
        case hya16 =>
          intro w hSw
          (try dsimp only at hSw)
          go_simp
          try with_reducible rfl
        try simp only [Act.put, List.setIfInBounds_toArray, List.set_cons_zero, List.set_cons_succ]
        refine wpAnyH_done (by kernel_rfl) ?_ _
        go_wp2
        go_ret
        exact ⟨ret_bool HQ.out.symm, HBW.out.trans (A2.mono HBW.out.size)⟩
      | true =>
      rw [hkb] at KE0
      have HOk : Hid (riseB L k = true → runU L k ≤ 60 → ∀ j, j < k + 1 → okT L j) := fun a b => okT_succ HR.out ⟨hkb, a, b⟩
      have HOvk : Hid (riseB L k = true → 60 < runU L k → R = false) := fun a b => HOver.out k hlt (fun j hj => by
        by_cases e : j = k
        · subst e; exact a
        · exact (HR.out j (by omega)).2.1) b
      have HFl : Hid (riseB L k = false → R = false) := fun a => HBk.out (by rw [a, Bool.and_false])
      clear HBk hkb HOver HZ
      cases k with
      | zero =>
        have HSt : Hid (runU L 0 ≤ 60 → ∀ j, j < 0 + 1 → okT L j) := HOk.out rfl
        have HOv : Hid (60 < runU L 0 → R = false) := HOvk.out rfl
        have HRun : Hid (runU L 0 = enN (atE L 0)) := rfl
        clear HOk HOvk HFl HC HR
        have q1 : decide ((0 : Int) < (0 : Int)) = false := rfl
        rw [Nat.zero_mul] at e0
        rw [Nat.zero_mul, Nat.zero_add] at e1 e2
        generalize enN (atE L 0) = N at *
        have hr0 : runTo L 0 = 0 := rfl
        rw [hr0] at hu
        rw [hr0]
        clear hr0 hu
        generalize atE L 0 = y at *
        obtain ⟨ke, na, va⟩ := y
        unfold enV at KE0 KB0
        dsimp only at *
        have KE : Hid (∀ W, Calls Tryd.prog 188 #[.agg #[.string ke, .string na, .string va]] W fun r w' => r = .returned (.bool true) ∧ Below W.heap.size W w') := KE0
        have KB : Hid (∀ W, Calls Tryd.prog 189 #[.agg #[.string ke, .string na, .string va]] W fun r w' => r = .returned (.int .i64 (N : Int)) ∧ Below W.heap.size W w') := KB0
        clear KE0 KB0
        obtain ⟨W0, hW⟩ : ∃ W0, W0 = wr.alloc (.cells #[.string ke, .string na, .string va] 108) := ⟨_, rfl⟩
        have hW0 : Hid (W0 = wr.alloc (.cells #[.string ke, .string na, .string va] 108)) := hW
        have HBW : Hid (Below w.heap.size w W0) := by show Below _ _ _; rw [hW]; exact HB.out.alloc HB.out.size _
        have HBr : Hid (Below wr.heap.size wr W0) := by show Below _ _ _; rw [hW]; exact (Below.refl _ _).alloc (Nat.le_refl _) _
        have c0 : W0.cell? ⟨wr.heap.size, 0, none⟩ = some (.string ke) := by rw [hW]; simp
        have c1 : W0.cell? ⟨wr.heap.size, 1, none⟩ = some (.string na) := by rw [hW]; simp
        have c2 : W0.cell? ⟨wr.heap.size, 2, none⟩ = some (.string va) := by rw [hW]; simp
        have hbW : wr.heap.size < W0.heap.size := by rw [hW]; simp
        have hgW : g < W0.heap.size := Nat.lt_trans hgr hbW
        clear hW
        go_wp2_with fail
        rw [← hW0.out]
        clear hW0
        generalize hbb : wr.heap.size = b at *
        clear hbb HBr HB e0 e1 e2 
        refine wp_region_held_drew (S := (fun w' => w'.cell? ⟨b, 0, none⟩ = some (.string ke) ∧ w'.cell? ⟨b, 1, none⟩ = some (.string na) ∧ w'.cell? ⟨b, 2, none⟩ = some (.string va))) (by kernel_rfl) ?_ (fun hH0 => ?_)
        · (try dsimp only)
          go_keep
        refine wpAnyH_take (i := 0) (oi := { dst := some 16, op := Op.load 108 (Operand.tmp 5), type := 108, pos := "l07_area.go:61", after := #[], guard := none }) (v := ?vb0) rfl (by kernel_rfl) (by kernel_rfl) (by kernel_rfl) (fun _ _ _ h => h) (Or.inl ⟨by rfl, ?hyb0⟩) (by assumption) ?restb0
        case hyb0 =>
          intro w hSw
          (try dsimp only at hSw)
          go_simp
          try with_reducible rfl
        try simp only [Act.put, List.setIfInBounds_toArray, List.set_cons_zero, List.set_cons_succ]
        refine wpAnyH_ready (rs := [1]) (by kernel_rfl) (by simp) ?_
        refine AllReadyH.cons (o := { dst := some 17, op := Op.call { callee := Callee.value (Operand.func 188), args := #[Operand.tmp 16], argTypes := #[108] }, type := 4, pos := "l07_area.go:61", after := #[{ on := 0, ground := Ground.data }], guard := none }) rfl (fun K hK => ?_) AllReadyH.nil
        go_simp
        (go_at_call 188; refine (KE.out _).mono ?_; rintro e w2 ⟨rfl, hb2⟩; have A2 : Below W0.heap.size W0 w2 := (Below.drew (Below.refl _ _)).trans hb2; have x0 : w2.cell? ⟨b, 0, none⟩ = some (.string ke) := ((bcell A2).1 _ _ hbW).trans c0; have x1 : w2.cell? ⟨b, 1, none⟩ = some (.string na) := ((bcell A2).1 _ _ hbW).trans c1; have x2 : w2.cell? ⟨b, 2, none⟩ = some (.string va) := ((bcell A2).1 _ _ hbW).trans c2)
        try (go_wp2_with fail)
        refine hK.out _ _ ?_ (fun hH1 => ?_)
        · (try dsimp only)
          go_keep
        clear hK K hH0
        try simp only [Act.put, List.setIfInBounds_toArray, List.set_cons_zero, List.set_cons_succ]
        refine wpAnyH_take (i := 2) (oi := { dst := some 18, op := Op.unOp UnOp.not 4 (Operand.tmp 17), type := 4, pos := "l07_area.go:61", after := #[{ on := 1, ground := Ground.data }], guard := none }) (v := ?vb2) rfl (by kernel_rfl) (by kernel_rfl) (by kernel_rfl) (fun _ _ _ h => h) (Or.inl ⟨by rfl, ?hyb2⟩) (by assumption) ?restb2
        case hyb2 =>
          intro w hSw
          (try dsimp only at hSw)
          go_simp
          try with_reducible rfl
        try simp only [Act.put, List.setIfInBounds_toArray, List.set_cons_zero, List.set_cons_succ]
        refine wpAnyH_take (i := 3) (oi := { dst := some 19, op := Op.move (Operand.tmp 18), type := 4, pos := "l07_area.go:61", after := #[{ on := 2, ground := Ground.data }, { on := 1, ground := Ground.chain }], guard := none }) (v := ?vb3) rfl (by kernel_rfl) (by kernel_rfl) (by kernel_rfl) (fun _ _ _ h => h) (Or.inl ⟨by rfl, ?hyb3⟩) (by assumption) ?restb3
        case hyb3 =>
          intro w hSw
          (try dsimp only at hSw)
          go_simp
          try with_reducible rfl
        try simp only [Act.put, List.setIfInBounds_toArray, List.set_cons_zero, List.set_cons_succ]
        refine wpAnyH_take (i := 4) (oi := { dst := some 20, op := Op.move (Operand.tmp 4), type := 3, pos := "l07_area.go:61", after := #[{ on := 3, ground := Ground.guard }], guard := some (3, false) }) (v := ?vb4) rfl (by kernel_rfl) (by kernel_rfl) (by kernel_rfl) (fun _ _ _ h => h) (Or.inl ⟨by rfl, ?hyb4⟩) (by assumption) ?restb4
        case hyb4 =>
          intro w hSw
          (try dsimp only at hSw)
          go_simp
          try with_reducible rfl
        try simp only [Act.put, List.setIfInBounds_toArray, List.set_cons_zero, List.set_cons_succ]
        refine wpAnyH_take (i := 5) (oi := { dst := some 21, op := Op.binOp BinOp.gtr 3 (Operand.tmp 20) (Operand.const (Value.int IntKind.i64 0)) 3, type := 4, pos := "l07_area.go:61", after := #[{ on := 4, ground := Ground.data }, { on := 3, ground := Ground.guard }], guard := some (3, false) }) (v := ?vb5) rfl (by kernel_rfl) (by kernel_rfl) (by kernel_rfl) (fun _ _ _ h => h) (Or.inl ⟨by rfl, ?hyb5⟩) (by assumption) ?restb5
        case hyb5 =>
          intro w hSw
          (try dsimp only at hSw)
          go_simp
          try with_reducible rfl
        try simp only [Act.put, List.setIfInBounds_toArray, List.set_cons_zero, List.set_cons_succ]
        refine wpAnyH_take (i := 6) (oi := { dst := some 22, op := Op.move (Operand.tmp 21), type := 4, pos := "l07_area.go:61", after := #[{ on := 5, ground := Ground.data }, { on := 3, ground := Ground.chain }, { on := 3, ground := Ground.guard }], guard := some (3, false) }) (v := ?vb6) rfl (by kernel_rfl) (by kernel_rfl) (by kernel_rfl) (fun _ _ _ h => h) (Or.inl ⟨by rfl, ?hyb6⟩) (by assumption) ?restb6
        case hyb6 =>
          intro w hSw
          (try dsimp only at hSw)
          go_simp
          try with_reducible rfl
        try simp only [Act.put, List.setIfInBounds_toArray, List.set_cons_zero, List.set_cons_succ]
        refine wpAnyH_take (i := 7) (oi := { dst := some 23, op := Op.move (Operand.tmp 0), type := 54, pos := "l07_area.go:61", after := #[{ on := 6, ground := Ground.guard }], guard := some (6, true) }) (v := undef) rfl (by kernel_rfl) (by kernel_rfl) (by kernel_rfl) (fun _ _ _ h => h) (Or.inr ⟨by rfl, rfl⟩) (by assumption) ?_
        try simp only [Act.put, List.setIfInBounds_toArray, List.set_cons_zero, List.set_cons_succ]
        refine wpAnyH_take (i := 8) (oi := { dst := some 24, op := Op.move (Operand.tmp 4), type := 3, pos := "l07_area.go:61", after := #[{ on := 6, ground := Ground.guard }], guard := some (6, true) }) (v := undef) rfl (by kernel_rfl) (by kernel_rfl) (by kernel_rfl) (fun _ _ _ h => h) (Or.inr ⟨by rfl, rfl⟩) (by assumption) ?_
        try simp only [Act.put, List.setIfInBounds_toArray, List.set_cons_zero, List.set_cons_succ]
        refine wpAnyH_take (i := 9) (oi := { dst := some 25, op := Op.binOp BinOp.sub 3 (Operand.tmp 24) (Operand.const (Value.int IntKind.i64 1)) 3, type := 3, pos := "l07_area.go:61", after := #[{ on := 8, ground := Ground.data }, { on := 6, ground := Ground.guard }], guard := some (6, true) }) (v := undef) rfl (by kernel_rfl) (by kernel_rfl) (by kernel_rfl) (fun _ _ _ h => h) (Or.inr ⟨by rfl, rfl⟩) (by assumption) ?_
        try simp only [Act.put, List.setIfInBounds_toArray, List.set_cons_zero, List.set_cons_succ]
        refine wpAnyH_take (i := 10) (oi := { dst := some 26, op := Op.indexAddr 54 (Operand.tmp 23) (Operand.tmp 25), type := 0, pos := "l07_area.go:61", after := #[{ on := 7, ground := Ground.data }, { on := 9, ground := Ground.data }, { on := 6, ground := Ground.guard }], guard := some (6, true) }) (v := undef) rfl (by kernel_rfl) (by kernel_rfl) (by kernel_rfl) (fun _ _ _ h => h) (Or.inr ⟨by rfl, rfl⟩) (by assumption) ?_
        try simp only [Act.put, List.setIfInBounds_toArray, List.set_cons_zero, List.set_cons_succ]
        refine wpAnyH_take (i := 11) (oi := { dst := some 27, op := Op.load 108 (Operand.tmp 26), type := 108, pos := "l07_area.go:61", after := #[{ on := 10, ground := Ground.data }, { on := 6, ground := Ground.guard }], guard := some (6, true) }) (v := undef) rfl (by kernel_rfl) (by kernel_rfl) (by kernel_rfl) (fun _ _ _ h => h) (Or.inr ⟨by rfl, rfl⟩) (by assumption) ?_
        try simp only [Act.put, List.setIfInBounds_toArray, List.set_cons_zero, List.set_cons_succ]
        refine wpAnyH_take (i := 12) (oi := { dst := some 28, op := Op.load 108 (Operand.tmp 5), type := 108, pos := "l07_area.go:61", after := #[{ on := 6, ground := Ground.guard }], guard := some (6, true) }) (v := undef) rfl (by kernel_rfl) (by kernel_rfl) (by kernel_rfl) (fun _ _ _ h => h) (Or.inr ⟨by rfl, rfl⟩) (by assumption) ?_
        try simp only [Act.put, List.setIfInBounds_toArray, List.set_cons_zero, List.set_cons_succ]
        refine wpAnyH_take (i := 13) (oi := { dst := some 29, op := Op.call { callee := Callee.value (Operand.func 146), args := #[Operand.tmp 27, Operand.tmp 28], argTypes := #[108, 108] }, type := 3, pos := "l07_area.go:61", after := #[{ on := 11, ground := Ground.data }, { on := 12, ground := Ground.data }, { on := 6, ground := Ground.chain }, { on := 6, ground := Ground.guard }], guard := some (6, true) }) (v := undef) rfl (by kernel_rfl) (by kernel_rfl) (by kernel_rfl) (fun _ _ _ h => h) (Or.inr ⟨by rfl, rfl⟩) (by assumption) ?_
        try simp only [Act.put, List.setIfInBounds_toArray, List.set_cons_zero, List.set_cons_succ]
        refine wpAnyH_take (i := 14) (oi := { dst := some 30, op := Op.binOp BinOp.geq 3 (Operand.tmp 29) (Operand.const (Value.int IntKind.i64 0)) 3, type := 4, pos := "l07_area.go:61", after := #[{ on := 13, ground := Ground.data }, { on := 6, ground := Ground.guard }], guard := some (6, true) }) (v := undef) rfl (by kernel_rfl) (by kernel_rfl) (by kernel_rfl) (fun _ _ _ h => h) (Or.inr ⟨by rfl, rfl⟩) (by assumption) ?_
        try simp only [Act.put, List.setIfInBounds_toArray, List.set_cons_zero, List.set_cons_succ]
        refine wpAnyH_take (i := 15) (oi := { dst := some 31, op := Op.pick (Operand.tmp 22) (Operand.tmp 30) (Operand.const (Value.bool false)), type := 4, pos := "l07_area.go:61", after := #[{ on := 6, ground := Ground.data }, { on := 14, ground := Ground.data }, { on := 3, ground := Ground.guard }], guard := some (3, false) }) (v := ?vb15) rfl (by kernel_rfl) (by kernel_rfl) (by kernel_rfl) (fun _ _ _ h => h) (Or.inl ⟨by rfl, ?hyb15⟩) (by assumption) ?restb15
        case hyb15 =>
          intro w hSw
          (try dsimp only at hSw)
          go_simp
          try with_reducible rfl
        try simp only [Act.put, List.setIfInBounds_toArray, List.set_cons_zero, List.set_cons_succ]
        refine wpAnyH_take (i := 16) (oi := { dst := some 32, op := Op.pick (Operand.tmp 19) (Operand.const (Value.bool true)) (Operand.tmp 31), type := 4, pos := "l07_area.go:61", after := #[{ on := 3, ground := Ground.data }, { on := 15, ground := Ground.data }], guard := none }) (v := ?vb16) rfl (by kernel_rfl) (by kernel_rfl) (by kernel_rfl) (fun _ _ _ h => h) (Or.inl ⟨by rfl, ?hyb16⟩) (by assumption) ?restb16
        case hyb16 =>
          intro w hSw
          (try dsimp only at hSw)
          go_simp
          try with_reducible rfl
        try simp only [Act.put, List.setIfInBounds_toArray, List.set_cons_zero, List.set_cons_succ]
        refine wpAnyH_done (by kernel_rfl) ?_ _
        go_wp2_with fail
        refine wp_region_held_drew (S := (fun w' => w'.cell? ⟨b, 0, none⟩ = some (.string ke) ∧ w'.cell? ⟨b, 1, none⟩ = some (.string na) ∧ w'.cell? ⟨b, 2, none⟩ = some (.string va))) (by kernel_rfl) ?_ (fun hH0 => ?_)
        · (try dsimp only)
          go_keep
        refine wpAnyH_take (i := 0) (oi := { dst := some 33, op := Op.move (Operand.tmp 4), type := 3, pos := "l07_area.go:65", after := #[], guard := none }) (v := ?vc0) rfl (by kernel_rfl) (by kernel_rfl) (by kernel_rfl) (fun _ _ _ h => h) (Or.inl ⟨by rfl, ?hyc0⟩) (by assumption) ?restc0
        case hyc0 =>
          intro w hSw
          (try dsimp only at hSw)
          go_simp
          try with_reducible rfl
        try simp only [Act.put, List.setIfInBounds_toArray, List.set_cons_zero, List.set_cons_succ]
        refine wpAnyH_take (i := 1) (oi := { dst := some 34, op := Op.binOp BinOp.gtr 3 (Operand.tmp 33) (Operand.const (Value.int IntKind.i64 0)) 3, type := 4, pos := "l07_area.go:65", after := #[{ on := 0, ground := Ground.data }], guard := none }) (v := ?vc1) rfl (by kernel_rfl) (by kernel_rfl) (by kernel_rfl) (fun _ _ _ h => h) (Or.inl ⟨by rfl, ?hyc1⟩) (by assumption) ?restc1
        case hyc1 =>
          intro w hSw
          (try dsimp only at hSw)
          go_simp
          try with_reducible rfl
        try simp only [Act.put, List.setIfInBounds_toArray, List.set_cons_zero, List.set_cons_succ]
        refine wpAnyH_take (i := 2) (oi := { dst := some 35, op := Op.move (Operand.tmp 34), type := 4, pos := "l07_area.go:65", after := #[{ on := 1, ground := Ground.data }], guard := none }) (v := ?vc2) rfl (by kernel_rfl) (by kernel_rfl) (by kernel_rfl) (fun _ _ _ h => h) (Or.inl ⟨by rfl, ?hyc2⟩) (by assumption) ?restc2
        case hyc2 =>
          intro w hSw
          (try dsimp only at hSw)
          go_simp
          try with_reducible rfl
        try simp only [Act.put, List.setIfInBounds_toArray, List.set_cons_zero, List.set_cons_succ]
        refine wpAnyH_take (i := 3) (oi := { dst := some 36, op := Op.move (Operand.tmp 0), type := 54, pos := "l07_area.go:65", after := #[{ on := 2, ground := Ground.guard }], guard := some (2, true) }) (v := undef) rfl (by kernel_rfl) (by kernel_rfl) (by kernel_rfl) (fun _ _ _ h => h) (Or.inr ⟨by rfl, rfl⟩) (by assumption) ?_
        try simp only [Act.put, List.setIfInBounds_toArray, List.set_cons_zero, List.set_cons_succ]
        refine wpAnyH_take (i := 4) (oi := { dst := some 37, op := Op.move (Operand.tmp 4), type := 3, pos := "l07_area.go:65", after := #[{ on := 2, ground := Ground.guard }], guard := some (2, true) }) (v := undef) rfl (by kernel_rfl) (by kernel_rfl) (by kernel_rfl) (fun _ _ _ h => h) (Or.inr ⟨by rfl, rfl⟩) (by assumption) ?_
        try simp only [Act.put, List.setIfInBounds_toArray, List.set_cons_zero, List.set_cons_succ]
        refine wpAnyH_take (i := 5) (oi := { dst := some 38, op := Op.binOp BinOp.sub 3 (Operand.tmp 37) (Operand.const (Value.int IntKind.i64 1)) 3, type := 3, pos := "l07_area.go:65", after := #[{ on := 4, ground := Ground.data }, { on := 2, ground := Ground.guard }], guard := some (2, true) }) (v := undef) rfl (by kernel_rfl) (by kernel_rfl) (by kernel_rfl) (fun _ _ _ h => h) (Or.inr ⟨by rfl, rfl⟩) (by assumption) ?_
        try simp only [Act.put, List.setIfInBounds_toArray, List.set_cons_zero, List.set_cons_succ]
        refine wpAnyH_take (i := 6) (oi := { dst := some 39, op := Op.indexAddr 54 (Operand.tmp 36) (Operand.tmp 38), type := 0, pos := "l07_area.go:65", after := #[{ on := 3, ground := Ground.data }, { on := 5, ground := Ground.data }, { on := 2, ground := Ground.guard }], guard := some (2, true) }) (v := undef) rfl (by kernel_rfl) (by kernel_rfl) (by kernel_rfl) (fun _ _ _ h => h) (Or.inr ⟨by rfl, rfl⟩) (by assumption) ?_
        try simp only [Act.put, List.setIfInBounds_toArray, List.set_cons_zero, List.set_cons_succ]
        refine wpAnyH_take (i := 7) (oi := { dst := some 40, op := Op.fieldAddr 108 (Operand.tmp 39) 0, type := 0, pos := "l07_area.go:65", after := #[{ on := 6, ground := Ground.data }, { on := 2, ground := Ground.guard }], guard := some (2, true) }) (v := undef) rfl (by kernel_rfl) (by kernel_rfl) (by kernel_rfl) (fun _ _ _ h => h) (Or.inr ⟨by rfl, rfl⟩) (by assumption) ?_
        try simp only [Act.put, List.setIfInBounds_toArray, List.set_cons_zero, List.set_cons_succ]
        refine wpAnyH_take (i := 8) (oi := { dst := some 41, op := Op.load 9 (Operand.tmp 40), type := 9, pos := "l07_area.go:65", after := #[{ on := 7, ground := Ground.data }, { on := 2, ground := Ground.guard }], guard := some (2, true) }) (v := undef) rfl (by kernel_rfl) (by kernel_rfl) (by kernel_rfl) (fun _ _ _ h => h) (Or.inr ⟨by rfl, rfl⟩) (by assumption) ?_
        try simp only [Act.put, List.setIfInBounds_toArray, List.set_cons_zero, List.set_cons_succ]
        refine wpAnyH_take (i := 9) (oi := { dst := some 42, op := Op.fieldAddr 108 (Operand.tmp 5) 0, type := 0, pos := "l07_area.go:65", after := #[{ on := 2, ground := Ground.guard }], guard := some (2, true) }) (v := undef) rfl (by kernel_rfl) (by kernel_rfl) (by kernel_rfl) (fun _ _ _ h => h) (Or.inr ⟨by rfl, rfl⟩) (by assumption) ?_
        try simp only [Act.put, List.setIfInBounds_toArray, List.set_cons_zero, List.set_cons_succ]
        refine wpAnyH_take (i := 10) (oi := { dst := some 43, op := Op.load 9 (Operand.tmp 42), type := 9, pos := "l07_area.go:65", after := #[{ on := 9, ground := Ground.data }, { on := 2, ground := Ground.guard }], guard := some (2, true) }) (v := undef) rfl (by kernel_rfl) (by kernel_rfl) (by kernel_rfl) (fun _ _ _ h => h) (Or.inr ⟨by rfl, rfl⟩) (by assumption) ?_
        try simp only [Act.put, List.setIfInBounds_toArray, List.set_cons_zero, List.set_cons_succ]
        refine wpAnyH_take (i := 11) (oi := { dst := some 44, op := Op.binOp BinOp.neq 9 (Operand.tmp 41) (Operand.tmp 43) 9, type := 4, pos := "l07_area.go:65", after := #[{ on := 8, ground := Ground.data }, { on := 10, ground := Ground.data }, { on := 2, ground := Ground.guard }], guard := some (2, true) }) (v := undef) rfl (by kernel_rfl) (by kernel_rfl) (by kernel_rfl) (fun _ _ _ h => h) (Or.inr ⟨by rfl, rfl⟩) (by assumption) ?_
        try simp only [Act.put, List.setIfInBounds_toArray, List.set_cons_zero, List.set_cons_succ]
        refine wpAnyH_take (i := 12) (oi := { dst := some 45, op := Op.pick (Operand.tmp 35) (Operand.tmp 44) (Operand.const (Value.bool false)), type := 4, pos := "l07_area.go:65", after := #[{ on := 2, ground := Ground.data }, { on := 11, ground := Ground.data }], guard := none }) (v := ?vc12) rfl (by kernel_rfl) (by kernel_rfl) (by kernel_rfl) (fun _ _ _ h => h) (Or.inl ⟨by rfl, ?hyc12⟩) (by assumption) ?restc12
        case hyc12 =>
          intro w hSw
          (try dsimp only at hSw)
          go_simp
          try with_reducible rfl
        try simp only [Act.put, List.setIfInBounds_toArray, List.set_cons_zero, List.set_cons_succ]
        refine wpAnyH_done (by kernel_rfl) ?_ _
        go_wp2_with fail
        refine (KB.out _).mono ?_
        rintro e w5 ⟨rfl, hb5⟩
        have B5 : Hid (Below w.heap.size w w5) := ((HBW.out.trans (A2.mono HBW.out.size)).trans (Below.drew (Below.refl _ _))).trans (hb5.mono (HBW.out.trans (A2.mono HBW.out.size)).size)
        clear hb5
        by_cases hN : 60 < N
        · have HQ : Hid (R = false) := HOv.out (by have := HRun.out; omega)
          have q5 : decide ((60 : Int) < (N : Int)) = true := by rw [decide_eq_true_iff]; omega
          clear hN
          go_wp2
          go_ret
          exact ⟨ret_bool HQ.out.symm, B5.out⟩
        · have q5 : decide ((60 : Int) < (N : Int)) = false := by rw [decide_eq_false_iff_not]; omega
          have HL : Hid (runU L 0 ≤ 60) := by show _ ≤ _; have := HRun.out; omega
          have HV : Hid (runTo L 1 = N) := HRun.out
          have HNl : Hid (runTo L (0 + 1) ≤ 60) := HL.out
          clear hN
          go_wp2
          go_roundw
          case rel => exact ⟨1, by omega, val_int (by have := HV.out; omega), by go_num, HNl.out, HSt.out HL.out, B5⟩
          case measure => simp [intOf]; omega
      | succ m =>
        have hm : m < L.length := by omega
        have d0' : wr.cell? ⟨g, m * 3, none⟩ = some (.string (atE L m).ke) := HC.out m hm 0 (by omega)
        have d1' : wr.cell? ⟨g, m * 3 + 1, none⟩ = some (.string (atE L m).na) := HC.out m hm 1 (by omega)
        have d2' : wr.cell? ⟨g, m * 3 + 2, none⟩ = some (.string (atE L m).va) := HC.out m hm 2 (by omega)
        have KO0 : Hid (∀ W, Calls Tryd.prog 146 #[enV (atE L m), enV (atE L (m + 1))] W fun e w' => e = .returned (.int .i64 (ordE (atE L m) (atE L (m + 1)))) ∧ Below W.heap.size W w') := fun W => entryOrder_below _ _ W
        have HRi : Hid (decide (0 ≤ ordE (atE L m) (atE L (m + 1))) = !(riseB L (m + 1))) := by
          show _ = _
          rw [ordE_neg]; unfold riseB; rw [Nat.add_sub_cancel, decide_eq_false (by omega)]; rfl
        have HRun0 : Hid (runU L (m + 1) = (if ((atE L m).ke.toList == (atE L (m + 1)).ke.toList) = true then runTo L (m + 1) else 0) + enN (atE L (m + 1))) := rfl
        clear HC
        have q1 : decide ((0 : Int) < ((m : Int) + 1)) = true := by rw [decide_eq_true_iff]; omega
        have hw1 : IntKind.i64.wrap ((m : Int) + 1 - 1) = m := by rw [IntKind.wrap_i64]; omega
        have hw2 : IntKind.i64.wrap (m : Int) = m := by rw [IntKind.wrap_i64]; omega
        have p0 : (0 : Int) ≤ (m : Int) + 1 := by omega
        have p1 : (m : Int) + 1 < L.length := by omega
        have m0 : (0 : Int) ≤ m := by omega
        have m1 : (m : Int) < L.length := by omega
        generalize ordE (atE L m) (atE L (m + 1)) = O at *
        generalize enN (atE L (m + 1)) = N at *
        generalize hu0 : runTo L (m + 1) = u at *
        clear hu0
        generalize hkk : ((atE L m).ke.toList == (atE L (m + 1)).ke.toList) = same at *
        generalize atE L (m + 1) = y at *
        generalize atE L m = z at *
        obtain ⟨ke, na, va⟩ := y
        obtain ⟨pk, pn, pv⟩ := z
        unfold enV at KE0 KB0 KO0
        dsimp only at *
        have KE : Hid (∀ W, Calls Tryd.prog 188 #[.agg #[.string ke, .string na, .string va]] W fun r w' => r = .returned (.bool true) ∧ Below W.heap.size W w') := KE0
        have KB : Hid (∀ W, Calls Tryd.prog 189 #[.agg #[.string ke, .string na, .string va]] W fun r w' => r = .returned (.int .i64 (N : Int)) ∧ Below W.heap.size W w') := KB0
        have KO : Hid (∀ W, Calls Tryd.prog 146 #[.agg #[.string pk, .string pn, .string pv], .agg #[.string ke, .string na, .string va]] W fun e w' => e = .returned (.int .i64 O) ∧ Below W.heap.size W w') := KO0
        clear KE0 KB0 KO0
        obtain ⟨W0, hW⟩ : ∃ W0, W0 = wr.alloc (.cells #[.string ke, .string na, .string va] 108) := ⟨_, rfl⟩
        have hW0 : Hid (W0 = wr.alloc (.cells #[.string ke, .string na, .string va] 108)) := hW
        have HBW : Hid (Below w.heap.size w W0) := by show Below _ _ _; rw [hW]; exact HB.out.alloc HB.out.size _
        have HBr : Hid (Below wr.heap.size wr W0) := by show Below _ _ _; rw [hW]; exact (Below.refl _ _).alloc (Nat.le_refl _) _
        have c0 : W0.cell? ⟨wr.heap.size, 0, none⟩ = some (.string ke) := by rw [hW]; simp
        have c1 : W0.cell? ⟨wr.heap.size, 1, none⟩ = some (.string na) := by rw [hW]; simp
        have c2 : W0.cell? ⟨wr.heap.size, 2, none⟩ = some (.string va) := by rw [hW]; simp
        have hbW : wr.heap.size < W0.heap.size := by rw [hW]; simp
        have hgW : g < W0.heap.size := Nat.lt_trans hgr hbW
        clear hW
        have d0 : W0.cell? ⟨g, m * 3, none⟩ = some (.string pk) := ((bcell HBr.out).1 _ _ hgr).trans d0'
        have d1 : W0.cell? ⟨g, m * 3 + 1, none⟩ = some (.string pn) := ((bcell HBr.out).1 _ _ hgr).trans d1'
        have d2 : W0.cell? ⟨g, m * 3 + 2, none⟩ = some (.string pv) := ((bcell HBr.out).1 _ _ hgr).trans d2'
        clear d0' d1' d2'
        cases hri : riseB L (m + 1) with
        | false =>
          have HQ : Hid (R = false) := HFl.out hri
          have qO : decide ((0 : Int) ≤ O) = true := by rw [HRi.out, hri]; rfl
          clear hri HRi HFl HOk HOvk HRun0 HR hkk KB
          go_wp2_with fail
          rw [← hW0.out]
          clear hW0
          generalize hbb : wr.heap.size = b at *
          clear hbb HBr HB e0 e1 e2 
          refine wp_region_held_drew (S := (fun w' => w'.cell? ⟨b, 0, none⟩ = some (.string ke) ∧ w'.cell? ⟨b, 1, none⟩ = some (.string na) ∧ w'.cell? ⟨b, 2, none⟩ = some (.string va) ∧ w'.cell? ⟨g, m * 3, none⟩ = some (.string pk) ∧ w'.cell? ⟨g, m * 3 + 1, none⟩ = some (.string pn) ∧ w'.cell? ⟨g, m * 3 + 2, none⟩ = some (.string pv))) (by kernel_rfl) ?_ (fun hH0 => ?_)
          · (try dsimp only)
            go_keep
          refine wpAnyH_take (i := 0) (oi := { dst := some 16, op := Op.load 108 (Operand.tmp 5), type := 108, pos := "l07_area.go:61", after := #[], guard := none }) (v := ?vd0) rfl (by kernel_rfl) (by kernel_rfl) (by kernel_rfl) (fun _ _ _ h => h) (Or.inl ⟨by rfl, ?hyd0⟩) (by assumption) ?restd0
          case hyd0 =>
            intro w hSw
            (try dsimp only at hSw)
            go_simp
            try with_reducible rfl
          try simp only [Act.put, List.setIfInBounds_toArray, List.set_cons_zero, List.set_cons_succ]
          refine wpAnyH_ready (rs := [1]) (by kernel_rfl) (by simp) ?_
          refine AllReadyH.cons (o := { dst := some 17, op := Op.call { callee := Callee.value (Operand.func 188), args := #[Operand.tmp 16], argTypes := #[108] }, type := 4, pos := "l07_area.go:61", after := #[{ on := 0, ground := Ground.data }], guard := none }) rfl (fun K hK => ?_) AllReadyH.nil
          go_simp
          (go_at_call 188; refine (KE.out _).mono ?_; rintro e w2 ⟨rfl, hb2⟩; have A2 : Below W0.heap.size W0 w2 := (Below.drew (Below.refl _ _)).trans hb2; have x0 : w2.cell? ⟨b, 0, none⟩ = some (.string ke) := ((bcell A2).1 _ _ hbW).trans c0; have x1 : w2.cell? ⟨b, 1, none⟩ = some (.string na) := ((bcell A2).1 _ _ hbW).trans c1; have x2 : w2.cell? ⟨b, 2, none⟩ = some (.string va) := ((bcell A2).1 _ _ hbW).trans c2; have xp0 : w2.cell? ⟨g, m * 3, none⟩ = some (.string pk) := ((bcell A2).1 _ _ hgW).trans d0; have xp1 : w2.cell? ⟨g, m * 3 + 1, none⟩ = some (.string pn) := ((bcell A2).1 _ _ hgW).trans d1; have xp2 : w2.cell? ⟨g, m * 3 + 2, none⟩ = some (.string pv) := ((bcell A2).1 _ _ hgW).trans d2)
          try (go_wp2_with fail)
          refine hK.out _ _ ?_ (fun hH1 => ?_)
          · (try dsimp only)
            go_keep
          clear hK K hH0
          try simp only [Act.put, List.setIfInBounds_toArray, List.set_cons_zero, List.set_cons_succ]
          refine wpAnyH_take (i := 2) (oi := { dst := some 18, op := Op.unOp UnOp.not 4 (Operand.tmp 17), type := 4, pos := "l07_area.go:61", after := #[{ on := 1, ground := Ground.data }], guard := none }) (v := ?vd2) rfl (by kernel_rfl) (by kernel_rfl) (by kernel_rfl) (fun _ _ _ h => h) (Or.inl ⟨by rfl, ?hyd2⟩) (by assumption) ?restd2
          case hyd2 =>
            intro w hSw
            (try dsimp only at hSw)
            go_simp
            try with_reducible rfl
          try simp only [Act.put, List.setIfInBounds_toArray, List.set_cons_zero, List.set_cons_succ]
          refine wpAnyH_take (i := 3) (oi := { dst := some 19, op := Op.move (Operand.tmp 18), type := 4, pos := "l07_area.go:61", after := #[{ on := 2, ground := Ground.data }, { on := 1, ground := Ground.chain }], guard := none }) (v := ?vd3) rfl (by kernel_rfl) (by kernel_rfl) (by kernel_rfl) (fun _ _ _ h => h) (Or.inl ⟨by rfl, ?hyd3⟩) (by assumption) ?restd3
          case hyd3 =>
            intro w hSw
            (try dsimp only at hSw)
            go_simp
            try with_reducible rfl
          try simp only [Act.put, List.setIfInBounds_toArray, List.set_cons_zero, List.set_cons_succ]
          refine wpAnyH_take (i := 4) (oi := { dst := some 20, op := Op.move (Operand.tmp 4), type := 3, pos := "l07_area.go:61", after := #[{ on := 3, ground := Ground.guard }], guard := some (3, false) }) (v := ?vd4) rfl (by kernel_rfl) (by kernel_rfl) (by kernel_rfl) (fun _ _ _ h => h) (Or.inl ⟨by rfl, ?hyd4⟩) (by assumption) ?restd4
          case hyd4 =>
            intro w hSw
            (try dsimp only at hSw)
            go_simp
            try with_reducible rfl
          try simp only [Act.put, List.setIfInBounds_toArray, List.set_cons_zero, List.set_cons_succ]
          refine wpAnyH_take (i := 5) (oi := { dst := some 21, op := Op.binOp BinOp.gtr 3 (Operand.tmp 20) (Operand.const (Value.int IntKind.i64 0)) 3, type := 4, pos := "l07_area.go:61", after := #[{ on := 4, ground := Ground.data }, { on := 3, ground := Ground.guard }], guard := some (3, false) }) (v := ?vd5) rfl (by kernel_rfl) (by kernel_rfl) (by kernel_rfl) (fun _ _ _ h => h) (Or.inl ⟨by rfl, ?hyd5⟩) (by assumption) ?restd5
          case hyd5 =>
            intro w hSw
            (try dsimp only at hSw)
            go_simp
            try with_reducible rfl
          try simp only [Act.put, List.setIfInBounds_toArray, List.set_cons_zero, List.set_cons_succ]
          refine wpAnyH_take (i := 6) (oi := { dst := some 22, op := Op.move (Operand.tmp 21), type := 4, pos := "l07_area.go:61", after := #[{ on := 5, ground := Ground.data }, { on := 3, ground := Ground.chain }, { on := 3, ground := Ground.guard }], guard := some (3, false) }) (v := ?vd6) rfl (by kernel_rfl) (by kernel_rfl) (by kernel_rfl) (fun _ _ _ h => h) (Or.inl ⟨by rfl, ?hyd6⟩) (by assumption) ?restd6
          case hyd6 =>
            intro w hSw
            (try dsimp only at hSw)
            go_simp
            try with_reducible rfl
          try simp only [Act.put, List.setIfInBounds_toArray, List.set_cons_zero, List.set_cons_succ]
          refine wpAnyH_take (i := 7) (oi := { dst := some 23, op := Op.move (Operand.tmp 0), type := 54, pos := "l07_area.go:61", after := #[{ on := 6, ground := Ground.guard }], guard := some (6, true) }) (v := ?vd7) rfl (by kernel_rfl) (by kernel_rfl) (by kernel_rfl) (fun _ _ _ h => h) (Or.inl ⟨by rfl, ?hyd7⟩) (by assumption) ?restd7
          case hyd7 =>
            intro w hSw
            (try dsimp only at hSw)
            go_simp
            try with_reducible rfl
          try simp only [Act.put, List.setIfInBounds_toArray, List.set_cons_zero, List.set_cons_succ]
          refine wpAnyH_take (i := 8) (oi := { dst := some 24, op := Op.move (Operand.tmp 4), type := 3, pos := "l07_area.go:61", after := #[{ on := 6, ground := Ground.guard }], guard := some (6, true) }) (v := ?vd8) rfl (by kernel_rfl) (by kernel_rfl) (by kernel_rfl) (fun _ _ _ h => h) (Or.inl ⟨by rfl, ?hyd8⟩) (by assumption) ?restd8
          case hyd8 =>
            intro w hSw
            (try dsimp only at hSw)
            go_simp
            try with_reducible rfl
          try simp only [Act.put, List.setIfInBounds_toArray, List.set_cons_zero, List.set_cons_succ]
          refine wpAnyH_take (i := 9) (oi := { dst := some 25, op := Op.binOp BinOp.sub 3 (Operand.tmp 24) (Operand.const (Value.int IntKind.i64 1)) 3, type := 3, pos := "l07_area.go:61", after := #[{ on := 8, ground := Ground.data }, { on := 6, ground := Ground.guard }], guard := some (6, true) }) (v := ?vd9) rfl (by kernel_rfl) (by kernel_rfl) (by kernel_rfl) (fun _ _ _ h => h) (Or.inl ⟨by rfl, ?hyd9⟩) (by assumption) ?restd9
          case hyd9 =>
            intro w hSw
            (try dsimp only at hSw)
            go_simp
            try with_reducible rfl
          try simp only [Act.put, List.setIfInBounds_toArray, List.set_cons_zero, List.set_cons_succ]
          refine wpAnyH_take (i := 10) (oi := { dst := some 26, op := Op.indexAddr 54 (Operand.tmp 23) (Operand.tmp 25), type := 0, pos := "l07_area.go:61", after := #[{ on := 7, ground := Ground.data }, { on := 9, ground := Ground.data }, { on := 6, ground := Ground.guard }], guard := some (6, true) }) (v := ?vd10) rfl (by kernel_rfl) (by kernel_rfl) (by kernel_rfl) (fun _ _ _ h => h) (Or.inl ⟨by rfl, ?hyd10⟩) (by assumption) ?restd10
          case hyd10 =>
            intro w hSw
            (try dsimp only at hSw)
            go_simp
            try with_reducible rfl
          try simp only [Act.put, List.setIfInBounds_toArray, List.set_cons_zero, List.set_cons_succ]
          refine wpAnyH_take (i := 11) (oi := { dst := some 27, op := Op.load 108 (Operand.tmp 26), type := 108, pos := "l07_area.go:61", after := #[{ on := 10, ground := Ground.data }, { on := 6, ground := Ground.guard }], guard := some (6, true) }) (v := ?vd11) rfl (by kernel_rfl) (by kernel_rfl) (by kernel_rfl) (fun _ _ _ h => h) (Or.inl ⟨by rfl, ?hyd11⟩) (by assumption) ?restd11
          case hyd11 =>
            intro w hSw
            (try dsimp only at hSw)
            go_simp
            try with_reducible rfl
          try simp only [Act.put, List.setIfInBounds_toArray, List.set_cons_zero, List.set_cons_succ]
          refine wpAnyH_take (i := 12) (oi := { dst := some 28, op := Op.load 108 (Operand.tmp 5), type := 108, pos := "l07_area.go:61", after := #[{ on := 6, ground := Ground.guard }], guard := some (6, true) }) (v := ?vd12) rfl (by kernel_rfl) (by kernel_rfl) (by kernel_rfl) (fun _ _ _ h => h) (Or.inl ⟨by rfl, ?hyd12⟩) (by assumption) ?restd12
          case hyd12 =>
            intro w hSw
            (try dsimp only at hSw)
            go_simp
            try with_reducible rfl
          try simp only [Act.put, List.setIfInBounds_toArray, List.set_cons_zero, List.set_cons_succ]
          refine wpAnyH_ready (rs := [13]) (by kernel_rfl) (by simp) ?_
          refine AllReadyH.cons (o := { dst := some 29, op := Op.call { callee := Callee.value (Operand.func 146), args := #[Operand.tmp 27, Operand.tmp 28], argTypes := #[108, 108] }, type := 3, pos := "l07_area.go:61", after := #[{ on := 11, ground := Ground.data }, { on := 12, ground := Ground.data }, { on := 6, ground := Ground.chain }, { on := 6, ground := Ground.guard }], guard := some (6, true) }) rfl (fun K hK => ?_) AllReadyH.nil
          go_simp
          (go_at_call 146; refine (KO.out _).mono ?_; rintro e w3 ⟨rfl, hb3⟩; have A3 : Below W0.heap.size W0 w3 := A2.trans (hb3.mono A2.size); have y0 : w3.cell? ⟨b, 0, none⟩ = some (.string ke) := ((bcell A3).1 _ _ hbW).trans c0; have y1 : w3.cell? ⟨b, 1, none⟩ = some (.string na) := ((bcell A3).1 _ _ hbW).trans c1; have y2 : w3.cell? ⟨b, 2, none⟩ = some (.string va) := ((bcell A3).1 _ _ hbW).trans c2; have yp0 : w3.cell? ⟨g, m * 3, none⟩ = some (.string pk) := ((bcell A3).1 _ _ hgW).trans d0; have yp1 : w3.cell? ⟨g, m * 3 + 1, none⟩ = some (.string pn) := ((bcell A3).1 _ _ hgW).trans d1; have yp2 : w3.cell? ⟨g, m * 3 + 2, none⟩ = some (.string pv) := ((bcell A3).1 _ _ hgW).trans d2)
          try (go_wp2_with fail)
          refine hK.out _ _ ?_ (fun hH2 => ?_)
          · (try dsimp only)
            go_keep
          clear hK K hH1
          try simp only [Act.put, List.setIfInBounds_toArray, List.set_cons_zero, List.set_cons_succ]
          refine wpAnyH_take (i := 14) (oi := { dst := some 30, op := Op.binOp BinOp.geq 3 (Operand.tmp 29) (Operand.const (Value.int IntKind.i64 0)) 3, type := 4, pos := "l07_area.go:61", after := #[{ on := 13, ground := Ground.data }, { on := 6, ground := Ground.guard }], guard := some (6, true) }) (v := ?vd14) rfl (by kernel_rfl) (by kernel_rfl) (by kernel_rfl) (fun _ _ _ h => h) (Or.inl ⟨by rfl, ?hyd14⟩) (by assumption) ?restd14
          case hyd14 =>
            intro w hSw
            (try dsimp only at hSw)
            go_simp
            try with_reducible rfl
          try simp only [Act.put, List.setIfInBounds_toArray, List.set_cons_zero, List.set_cons_succ]
          refine wpAnyH_take (i := 15) (oi := { dst := some 31, op := Op.pick (Operand.tmp 22) (Operand.tmp 30) (Operand.const (Value.bool false)), type := 4, pos := "l07_area.go:61", after := #[{ on := 6, ground := Ground.data }, { on := 14, ground := Ground.data }, { on := 3, ground := Ground.guard }], guard := some (3, false) }) (v := ?vd15) rfl (by kernel_rfl) (by kernel_rfl) (by kernel_rfl) (fun _ _ _ h => h) (Or.inl ⟨by rfl, ?hyd15⟩) (by assumption) ?restd15
          case hyd15 =>
            intro w hSw
            (try dsimp only at hSw)
            go_simp
            try with_reducible rfl
          try simp only [Act.put, List.setIfInBounds_toArray, List.set_cons_zero, List.set_cons_succ]
          refine wpAnyH_take (i := 16) (oi := { dst := some 32, op := Op.pick (Operand.tmp 19) (Operand.const (Value.bool true)) (Operand.tmp 31), type := 4, pos := "l07_area.go:61", after := #[{ on := 3, ground := Ground.data }, { on := 15, ground := Ground.data }], guard := none }) (v := ?vd16) rfl (by kernel_rfl) (by kernel_rfl) (by kernel_rfl) (fun _ _ _ h => h) (Or.inl ⟨by rfl, ?hyd16⟩) (by assumption) ?restd16
          case hyd16 =>
            intro w hSw
            (try dsimp only at hSw)
            go_simp
            try with_reducible rfl
          try simp only [Act.put, List.setIfInBounds_toArray, List.set_cons_zero, List.set_cons_succ]
          refine wpAnyH_done (by kernel_rfl) ?_ _
          go_wp2
          go_ret
          exact ⟨ret_bool HQ.out.symm, HBW.out.trans (A3.mono HBW.out.size)⟩
        | true =>
          have qO : decide ((0 : Int) ≤ O) = false := by rw [HRi.out, hri]; rfl
          have HSt : Hid (runU L (m + 1) ≤ 60 → ∀ j, j < m + 1 + 1 → okT L j) := HOk.out hri
          have HOv : Hid (60 < runU L (m + 1) → R = false) := HOvk.out hri
          clear hri HRi HFl HOk HOvk HR
          cases same with
          | true =>
            have HRun : Hid (runU L (m + 1) = u + N) := by show _ = _; rw [HRun0.out]; rfl
            clear HRun0
            go_wp2_with fail
            rw [← hW0.out]
            clear hW0
            generalize hbb : wr.heap.size = b at *
            clear hbb HBr HB e0 e1 e2 
            refine wp_region_held_drew (S := (fun w' => w'.cell? ⟨b, 0, none⟩ = some (.string ke) ∧ w'.cell? ⟨b, 1, none⟩ = some (.string na) ∧ w'.cell? ⟨b, 2, none⟩ = some (.string va) ∧ w'.cell? ⟨g, m * 3, none⟩ = some (.string pk) ∧ w'.cell? ⟨g, m * 3 + 1, none⟩ = some (.string pn) ∧ w'.cell? ⟨g, m * 3 + 2, none⟩ = some (.string pv))) (by kernel_rfl) ?_ (fun hH0 => ?_)
            · (try dsimp only)
              go_keep
            refine wpAnyH_take (i := 0) (oi := { dst := some 16, op := Op.load 108 (Operand.tmp 5), type := 108, pos := "l07_area.go:61", after := #[], guard := none }) (v := ?ve0) rfl (by kernel_rfl) (by kernel_rfl) (by kernel_rfl) (fun _ _ _ h => h) (Or.inl ⟨by rfl, ?hye0⟩) (by assumption) ?reste0
            case hye0 =>
              intro w hSw
              (try dsimp only at hSw)
              go_simp
              try with_reducible rfl
            try simp only [Act.put, List.setIfInBounds_toArray, List.set_cons_zero, List.set_cons_succ]
            refine wpAnyH_ready (rs := [1]) (by kernel_rfl) (by simp) ?_
            refine AllReadyH.cons (o := { dst := some 17, op := Op.call { callee := Callee.value (Operand.func 188), args := #[Operand.tmp 16], argTypes := #[108] }, type := 4, pos := "l07_area.go:61", after := #[{ on := 0, ground := Ground.data }], guard := none }) rfl (fun K hK => ?_) AllReadyH.nil
            go_simp
            (go_at_call 188; refine (KE.out _).mono ?_; rintro e w2 ⟨rfl, hb2⟩; have A2 : Below W0.heap.size W0 w2 := (Below.drew (Below.refl _ _)).trans hb2; have x0 : w2.cell? ⟨b, 0, none⟩ = some (.string ke) := ((bcell A2).1 _ _ hbW).trans c0; have x1 : w2.cell? ⟨b, 1, none⟩ = some (.string na) := ((bcell A2).1 _ _ hbW).trans c1; have x2 : w2.cell? ⟨b, 2, none⟩ = some (.string va) := ((bcell A2).1 _ _ hbW).trans c2; have xp0 : w2.cell? ⟨g, m * 3, none⟩ = some (.string pk) := ((bcell A2).1 _ _ hgW).trans d0; have xp1 : w2.cell? ⟨g, m * 3 + 1, none⟩ = some (.string pn) := ((bcell A2).1 _ _ hgW).trans d1; have xp2 : w2.cell? ⟨g, m * 3 + 2, none⟩ = some (.string pv) := ((bcell A2).1 _ _ hgW).trans d2)
            try (go_wp2_with fail)
            refine hK.out _ _ ?_ (fun hH1 => ?_)
            · (try dsimp only)
              go_keep
            clear hK K hH0
            try simp only [Act.put, List.setIfInBounds_toArray, List.set_cons_zero, List.set_cons_succ]
            refine wpAnyH_take (i := 2) (oi := { dst := some 18, op := Op.unOp UnOp.not 4 (Operand.tmp 17), type := 4, pos := "l07_area.go:61", after := #[{ on := 1, ground := Ground.data }], guard := none }) (v := ?ve2) rfl (by kernel_rfl) (by kernel_rfl) (by kernel_rfl) (fun _ _ _ h => h) (Or.inl ⟨by rfl, ?hye2⟩) (by assumption) ?reste2
            case hye2 =>
              intro w hSw
              (try dsimp only at hSw)
              go_simp
              try with_reducible rfl
            try simp only [Act.put, List.setIfInBounds_toArray, List.set_cons_zero, List.set_cons_succ]
            refine wpAnyH_take (i := 3) (oi := { dst := some 19, op := Op.move (Operand.tmp 18), type := 4, pos := "l07_area.go:61", after := #[{ on := 2, ground := Ground.data }, { on := 1, ground := Ground.chain }], guard := none }) (v := ?ve3) rfl (by kernel_rfl) (by kernel_rfl) (by kernel_rfl) (fun _ _ _ h => h) (Or.inl ⟨by rfl, ?hye3⟩) (by assumption) ?reste3
            case hye3 =>
              intro w hSw
              (try dsimp only at hSw)
              go_simp
              try with_reducible rfl
            try simp only [Act.put, List.setIfInBounds_toArray, List.set_cons_zero, List.set_cons_succ]
            refine wpAnyH_take (i := 4) (oi := { dst := some 20, op := Op.move (Operand.tmp 4), type := 3, pos := "l07_area.go:61", after := #[{ on := 3, ground := Ground.guard }], guard := some (3, false) }) (v := ?ve4) rfl (by kernel_rfl) (by kernel_rfl) (by kernel_rfl) (fun _ _ _ h => h) (Or.inl ⟨by rfl, ?hye4⟩) (by assumption) ?reste4
            case hye4 =>
              intro w hSw
              (try dsimp only at hSw)
              go_simp
              try with_reducible rfl
            try simp only [Act.put, List.setIfInBounds_toArray, List.set_cons_zero, List.set_cons_succ]
            refine wpAnyH_take (i := 5) (oi := { dst := some 21, op := Op.binOp BinOp.gtr 3 (Operand.tmp 20) (Operand.const (Value.int IntKind.i64 0)) 3, type := 4, pos := "l07_area.go:61", after := #[{ on := 4, ground := Ground.data }, { on := 3, ground := Ground.guard }], guard := some (3, false) }) (v := ?ve5) rfl (by kernel_rfl) (by kernel_rfl) (by kernel_rfl) (fun _ _ _ h => h) (Or.inl ⟨by rfl, ?hye5⟩) (by assumption) ?reste5
            case hye5 =>
              intro w hSw
              (try dsimp only at hSw)
              go_simp
              try with_reducible rfl
            try simp only [Act.put, List.setIfInBounds_toArray, List.set_cons_zero, List.set_cons_succ]
            refine wpAnyH_take (i := 6) (oi := { dst := some 22, op := Op.move (Operand.tmp 21), type := 4, pos := "l07_area.go:61", after := #[{ on := 5, ground := Ground.data }, { on := 3, ground := Ground.chain }, { on := 3, ground := Ground.guard }], guard := some (3, false) }) (v := ?ve6) rfl (by kernel_rfl) (by kernel_rfl) (by kernel_rfl) (fun _ _ _ h => h) (Or.inl ⟨by rfl, ?hye6⟩) (by assumption) ?reste6
            case hye6 =>
              intro w hSw
              (try dsimp only at hSw)
              go_simp
              try with_reducible rfl
            try simp only [Act.put, List.setIfInBounds_toArray, List.set_cons_zero, List.set_cons_succ]
            refine wpAnyH_take (i := 7) (oi := { dst := some 23, op := Op.move (Operand.tmp 0), type := 54, pos := "l07_area.go:61", after := #[{ on := 6, ground := Ground.guard }], guard := some (6, true) }) (v := ?ve7) rfl (by kernel_rfl) (by kernel_rfl) (by kernel_rfl) (fun _ _ _ h => h) (Or.inl ⟨by rfl, ?hye7⟩) (by assumption) ?reste7
            case hye7 =>
              intro w hSw
              (try dsimp only at hSw)
              go_simp
              try with_reducible rfl
            try simp only [Act.put, List.setIfInBounds_toArray, List.set_cons_zero, List.set_cons_succ]
            refine wpAnyH_take (i := 8) (oi := { dst := some 24, op := Op.move (Operand.tmp 4), type := 3, pos := "l07_area.go:61", after := #[{ on := 6, ground := Ground.guard }], guard := some (6, true) }) (v := ?ve8) rfl (by kernel_rfl) (by kernel_rfl) (by kernel_rfl) (fun _ _ _ h => h) (Or.inl ⟨by rfl, ?hye8⟩) (by assumption) ?reste8
            case hye8 =>
              intro w hSw
              (try dsimp only at hSw)
              go_simp
              try with_reducible rfl
            try simp only [Act.put, List.setIfInBounds_toArray, List.set_cons_zero, List.set_cons_succ]
            refine wpAnyH_take (i := 9) (oi := { dst := some 25, op := Op.binOp BinOp.sub 3 (Operand.tmp 24) (Operand.const (Value.int IntKind.i64 1)) 3, type := 3, pos := "l07_area.go:61", after := #[{ on := 8, ground := Ground.data }, { on := 6, ground := Ground.guard }], guard := some (6, true) }) (v := ?ve9) rfl (by kernel_rfl) (by kernel_rfl) (by kernel_rfl) (fun _ _ _ h => h) (Or.inl ⟨by rfl, ?hye9⟩) (by assumption) ?reste9
            case hye9 =>
              intro w hSw
              (try dsimp only at hSw)
              go_simp
              try with_reducible rfl
            try simp only [Act.put, List.setIfInBounds_toArray, List.set_cons_zero, List.set_cons_succ]
            refine wpAnyH_take (i := 10) (oi := { dst := some 26, op := Op.indexAddr 54 (Operand.tmp 23) (Operand.tmp 25), type := 0, pos := "l07_area.go:61", after := #[{ on := 7, ground := Ground.data }, { on := 9, ground := Ground.data }, { on := 6, ground := Ground.guard }], guard := some (6, true) }) (v := ?ve10) rfl (by kernel_rfl) (by kernel_rfl) (by kernel_rfl) (fun _ _ _ h => h) (Or.inl ⟨by rfl, ?hye10⟩) (by assumption) ?reste10
            case hye10 =>
              intro w hSw
              (try dsimp only at hSw)
              go_simp
              try with_reducible rfl
            try simp only [Act.put, List.setIfInBounds_toArray, List.set_cons_zero, List.set_cons_succ]
            refine wpAnyH_take (i := 11) (oi := { dst := some 27, op := Op.load 108 (Operand.tmp 26), type := 108, pos := "l07_area.go:61", after := #[{ on := 10, ground := Ground.data }, { on := 6, ground := Ground.guard }], guard := some (6, true) }) (v := ?ve11) rfl (by kernel_rfl) (by kernel_rfl) (by kernel_rfl) (fun _ _ _ h => h) (Or.inl ⟨by rfl, ?hye11⟩) (by assumption) ?reste11
            case hye11 =>
              intro w hSw
              (try dsimp only at hSw)
              go_simp
              try with_reducible rfl
            try simp only [Act.put, List.setIfInBounds_toArray, List.set_cons_zero, List.set_cons_succ]
            refine wpAnyH_take (i := 12) (oi := { dst := some 28, op := Op.load 108 (Operand.tmp 5), type := 108, pos := "l07_area.go:61", after := #[{ on := 6, ground := Ground.guard }], guard := some (6, true) }) (v := ?ve12) rfl (by kernel_rfl) (by kernel_rfl) (by kernel_rfl) (fun _ _ _ h => h) (Or.inl ⟨by rfl, ?hye12⟩) (by assumption) ?reste12
            case hye12 =>
              intro w hSw
              (try dsimp only at hSw)
              go_simp
              try with_reducible rfl
            try simp only [Act.put, List.setIfInBounds_toArray, List.set_cons_zero, List.set_cons_succ]
            refine wpAnyH_ready (rs := [13]) (by kernel_rfl) (by simp) ?_
            refine AllReadyH.cons (o := { dst := some 29, op := Op.call { callee := Callee.value (Operand.func 146), args := #[Operand.tmp 27, Operand.tmp 28], argTypes := #[108, 108] }, type := 3, pos := "l07_area.go:61", after := #[{ on := 11, ground := Ground.data }, { on := 12, ground := Ground.data }, { on := 6, ground := Ground.chain }, { on := 6, ground := Ground.guard }], guard := some (6, true) }) rfl (fun K hK => ?_) AllReadyH.nil
            go_simp
            (go_at_call 146; refine (KO.out _).mono ?_; rintro e w3 ⟨rfl, hb3⟩; have A3 : Below W0.heap.size W0 w3 := A2.trans (hb3.mono A2.size); have y0 : w3.cell? ⟨b, 0, none⟩ = some (.string ke) := ((bcell A3).1 _ _ hbW).trans c0; have y1 : w3.cell? ⟨b, 1, none⟩ = some (.string na) := ((bcell A3).1 _ _ hbW).trans c1; have y2 : w3.cell? ⟨b, 2, none⟩ = some (.string va) := ((bcell A3).1 _ _ hbW).trans c2; have yp0 : w3.cell? ⟨g, m * 3, none⟩ = some (.string pk) := ((bcell A3).1 _ _ hgW).trans d0; have yp1 : w3.cell? ⟨g, m * 3 + 1, none⟩ = some (.string pn) := ((bcell A3).1 _ _ hgW).trans d1; have yp2 : w3.cell? ⟨g, m * 3 + 2, none⟩ = some (.string pv) := ((bcell A3).1 _ _ hgW).trans d2)
            try (go_wp2_with fail)
            refine hK.out _ _ ?_ (fun hH2 => ?_)
            · (try dsimp only)
              go_keep
            clear hK K hH1
            try simp only [Act.put, List.setIfInBounds_toArray, List.set_cons_zero, List.set_cons_succ]
            refine wpAnyH_take (i := 14) (oi := { dst := some 30, op := Op.binOp BinOp.geq 3 (Operand.tmp 29) (Operand.const (Value.int IntKind.i64 0)) 3, type := 4, pos := "l07_area.go:61", after := #[{ on := 13, ground := Ground.data }, { on := 6, ground := Ground.guard }], guard := some (6, true) }) (v := ?ve14) rfl (by kernel_rfl) (by kernel_rfl) (by kernel_rfl) (fun _ _ _ h => h) (Or.inl ⟨by rfl, ?hye14⟩) (by assumption) ?reste14
            case hye14 =>
              intro w hSw
              (try dsimp only at hSw)
              go_simp
              try with_reducible rfl
            try simp only [Act.put, List.setIfInBounds_toArray, List.set_cons_zero, List.set_cons_succ]
            refine wpAnyH_take (i := 15) (oi := { dst := some 31, op := Op.pick (Operand.tmp 22) (Operand.tmp 30) (Operand.const (Value.bool false)), type := 4, pos := "l07_area.go:61", after := #[{ on := 6, ground := Ground.data }, { on := 14, ground := Ground.data }, { on := 3, ground := Ground.guard }], guard := some (3, false) }) (v := ?ve15) rfl (by kernel_rfl) (by kernel_rfl) (by kernel_rfl) (fun _ _ _ h => h) (Or.inl ⟨by rfl, ?hye15⟩) (by assumption) ?reste15
            case hye15 =>
              intro w hSw
              (try dsimp only at hSw)
              go_simp
              try with_reducible rfl
            try simp only [Act.put, List.setIfInBounds_toArray, List.set_cons_zero, List.set_cons_succ]
            refine wpAnyH_take (i := 16) (oi := { dst := some 32, op := Op.pick (Operand.tmp 19) (Operand.const (Value.bool true)) (Operand.tmp 31), type := 4, pos := "l07_area.go:61", after := #[{ on := 3, ground := Ground.data }, { on := 15, ground := Ground.data }], guard := none }) (v := ?ve16) rfl (by kernel_rfl) (by kernel_rfl) (by kernel_rfl) (fun _ _ _ h => h) (Or.inl ⟨by rfl, ?hye16⟩) (by assumption) ?reste16
            case hye16 =>
              intro w hSw
              (try dsimp only at hSw)
              go_simp
              try with_reducible rfl
            try simp only [Act.put, List.setIfInBounds_toArray, List.set_cons_zero, List.set_cons_succ]
            refine wpAnyH_done (by kernel_rfl) ?_ _
            go_wp2_with fail
            refine wp_region_held_drew (S := (fun w' => w'.cell? ⟨b, 0, none⟩ = some (.string ke) ∧ w'.cell? ⟨b, 1, none⟩ = some (.string na) ∧ w'.cell? ⟨b, 2, none⟩ = some (.string va) ∧ w'.cell? ⟨g, m * 3, none⟩ = some (.string pk))) (by kernel_rfl) ?_ (fun hH0 => ?_)
            · (try dsimp only)
              go_keep
            refine wpAnyH_take (i := 0) (oi := { dst := some 33, op := Op.move (Operand.tmp 4), type := 3, pos := "l07_area.go:65", after := #[], guard := none }) (v := ?vf0) rfl (by kernel_rfl) (by kernel_rfl) (by kernel_rfl) (fun _ _ _ h => h) (Or.inl ⟨by rfl, ?hyf0⟩) (by assumption) ?restf0
            case hyf0 =>
              intro w hSw
              (try dsimp only at hSw)
              go_simp
              try with_reducible rfl
            try simp only [Act.put, List.setIfInBounds_toArray, List.set_cons_zero, List.set_cons_succ]
            refine wpAnyH_take (i := 1) (oi := { dst := some 34, op := Op.binOp BinOp.gtr 3 (Operand.tmp 33) (Operand.const (Value.int IntKind.i64 0)) 3, type := 4, pos := "l07_area.go:65", after := #[{ on := 0, ground := Ground.data }], guard := none }) (v := ?vf1) rfl (by kernel_rfl) (by kernel_rfl) (by kernel_rfl) (fun _ _ _ h => h) (Or.inl ⟨by rfl, ?hyf1⟩) (by assumption) ?restf1
            case hyf1 =>
              intro w hSw
              (try dsimp only at hSw)
              go_simp
              try with_reducible rfl
            try simp only [Act.put, List.setIfInBounds_toArray, List.set_cons_zero, List.set_cons_succ]
            refine wpAnyH_take (i := 2) (oi := { dst := some 35, op := Op.move (Operand.tmp 34), type := 4, pos := "l07_area.go:65", after := #[{ on := 1, ground := Ground.data }], guard := none }) (v := ?vf2) rfl (by kernel_rfl) (by kernel_rfl) (by kernel_rfl) (fun _ _ _ h => h) (Or.inl ⟨by rfl, ?hyf2⟩) (by assumption) ?restf2
            case hyf2 =>
              intro w hSw
              (try dsimp only at hSw)
              go_simp
              try with_reducible rfl
            try simp only [Act.put, List.setIfInBounds_toArray, List.set_cons_zero, List.set_cons_succ]
            refine wpAnyH_take (i := 3) (oi := { dst := some 36, op := Op.move (Operand.tmp 0), type := 54, pos := "l07_area.go:65", after := #[{ on := 2, ground := Ground.guard }], guard := some (2, true) }) (v := ?vf3) rfl (by kernel_rfl) (by kernel_rfl) (by kernel_rfl) (fun _ _ _ h => h) (Or.inl ⟨by rfl, ?hyf3⟩) (by assumption) ?restf3
            case hyf3 =>
              intro w hSw
              (try dsimp only at hSw)
              go_simp
              try with_reducible rfl
            try simp only [Act.put, List.setIfInBounds_toArray, List.set_cons_zero, List.set_cons_succ]
            refine wpAnyH_take (i := 4) (oi := { dst := some 37, op := Op.move (Operand.tmp 4), type := 3, pos := "l07_area.go:65", after := #[{ on := 2, ground := Ground.guard }], guard := some (2, true) }) (v := ?vf4) rfl (by kernel_rfl) (by kernel_rfl) (by kernel_rfl) (fun _ _ _ h => h) (Or.inl ⟨by rfl, ?hyf4⟩) (by assumption) ?restf4
            case hyf4 =>
              intro w hSw
              (try dsimp only at hSw)
              go_simp
              try with_reducible rfl
            try simp only [Act.put, List.setIfInBounds_toArray, List.set_cons_zero, List.set_cons_succ]
            refine wpAnyH_take (i := 5) (oi := { dst := some 38, op := Op.binOp BinOp.sub 3 (Operand.tmp 37) (Operand.const (Value.int IntKind.i64 1)) 3, type := 3, pos := "l07_area.go:65", after := #[{ on := 4, ground := Ground.data }, { on := 2, ground := Ground.guard }], guard := some (2, true) }) (v := ?vf5) rfl (by kernel_rfl) (by kernel_rfl) (by kernel_rfl) (fun _ _ _ h => h) (Or.inl ⟨by rfl, ?hyf5⟩) (by assumption) ?restf5
            case hyf5 =>
              intro w hSw
              (try dsimp only at hSw)
              go_simp
              try with_reducible rfl
            try simp only [Act.put, List.setIfInBounds_toArray, List.set_cons_zero, List.set_cons_succ]
            refine wpAnyH_take (i := 6) (oi := { dst := some 39, op := Op.indexAddr 54 (Operand.tmp 36) (Operand.tmp 38), type := 0, pos := "l07_area.go:65", after := #[{ on := 3, ground := Ground.data }, { on := 5, ground := Ground.data }, { on := 2, ground := Ground.guard }], guard := some (2, true) }) (v := ?vf6) rfl (by kernel_rfl) (by kernel_rfl) (by kernel_rfl) (fun _ _ _ h => h) (Or.inl ⟨by rfl, ?hyf6⟩) (by assumption) ?restf6
            case hyf6 =>
              intro w hSw
              (try dsimp only at hSw)
              go_simp
              try with_reducible rfl
            try simp only [Act.put, List.setIfInBounds_toArray, List.set_cons_zero, List.set_cons_succ]
            refine wpAnyH_take (i := 7) (oi := { dst := some 40, op := Op.fieldAddr 108 (Operand.tmp 39) 0, type := 0, pos := "l07_area.go:65", after := #[{ on := 6, ground := Ground.data }, { on := 2, ground := Ground.guard }], guard := some (2, true) }) (v := ?vf7) rfl (by kernel_rfl) (by kernel_rfl) (by kernel_rfl) (fun _ _ _ h => h) (Or.inl ⟨by rfl, ?hyf7⟩) (by assumption) ?restf7
            case hyf7 =>
              intro w hSw
              (try dsimp only at hSw)
              go_simp
              try with_reducible rfl
            try simp only [Act.put, List.setIfInBounds_toArray, List.set_cons_zero, List.set_cons_succ]
            refine wpAnyH_take (i := 8) (oi := { dst := some 41, op := Op.load 9 (Operand.tmp 40), type := 9, pos := "l07_area.go:65", after := #[{ on := 7, ground := Ground.data }, { on := 2, ground := Ground.guard }], guard := some (2, true) }) (v := ?vf8) rfl (by kernel_rfl) (by kernel_rfl) (by kernel_rfl) (fun _ _ _ h => h) (Or.inl ⟨by rfl, ?hyf8⟩) (by assumption) ?restf8
            case hyf8 =>
              intro w hSw
              (try dsimp only at hSw)
              go_simp
              try with_reducible rfl
            try simp only [Act.put, List.setIfInBounds_toArray, List.set_cons_zero, List.set_cons_succ]
            refine wpAnyH_take (i := 9) (oi := { dst := some 42, op := Op.fieldAddr 108 (Operand.tmp 5) 0, type := 0, pos := "l07_area.go:65", after := #[{ on := 2, ground := Ground.guard }], guard := some (2, true) }) (v := ?vf9) rfl (by kernel_rfl) (by kernel_rfl) (by kernel_rfl) (fun _ _ _ h => h) (Or.inl ⟨by rfl, ?hyf9⟩) (by assumption) ?restf9
            case hyf9 =>
              intro w hSw
              (try dsimp only at hSw)
              go_simp
              try with_reducible rfl
            try simp only [Act.put, List.setIfInBounds_toArray, List.set_cons_zero, List.set_cons_succ]
            refine wpAnyH_take (i := 10) (oi := { dst := some 43, op := Op.load 9 (Operand.tmp 42), type := 9, pos := "l07_area.go:65", after := #[{ on := 9, ground := Ground.data }, { on := 2, ground := Ground.guard }], guard := some (2, true) }) (v := ?vf10) rfl (by kernel_rfl) (by kernel_rfl) (by kernel_rfl) (fun _ _ _ h => h) (Or.inl ⟨by rfl, ?hyf10⟩) (by assumption) ?restf10
            case hyf10 =>
              intro w hSw
              (try dsimp only at hSw)
              go_simp
              try with_reducible rfl
            try simp only [Act.put, List.setIfInBounds_toArray, List.set_cons_zero, List.set_cons_succ]
            refine wpAnyH_take (i := 11) (oi := { dst := some 44, op := Op.binOp BinOp.neq 9 (Operand.tmp 41) (Operand.tmp 43) 9, type := 4, pos := "l07_area.go:65", after := #[{ on := 8, ground := Ground.data }, { on := 10, ground := Ground.data }, { on := 2, ground := Ground.guard }], guard := some (2, true) }) (v := ?vf11) rfl (by kernel_rfl) (by kernel_rfl) (by kernel_rfl) (fun _ _ _ h => h) (Or.inl ⟨by rfl, ?hyf11⟩) (by assumption) ?restf11
            case hyf11 =>
              intro w hSw
              (try dsimp only at hSw)
              go_simp
              try with_reducible rfl
            try simp only [Act.put, List.setIfInBounds_toArray, List.set_cons_zero, List.set_cons_succ]
            refine wpAnyH_take (i := 12) (oi := { dst := some 45, op := Op.pick (Operand.tmp 35) (Operand.tmp 44) (Operand.const (Value.bool false)), type := 4, pos := "l07_area.go:65", after := #[{ on := 2, ground := Ground.data }, { on := 11, ground := Ground.data }], guard := none }) (v := ?vf12) rfl (by kernel_rfl) (by kernel_rfl) (by kernel_rfl) (fun _ _ _ h => h) (Or.inl ⟨by rfl, ?hyf12⟩) (by assumption) ?restf12
            case hyf12 =>
              intro w hSw
              (try dsimp only at hSw)
              go_simp
              try with_reducible rfl
            try simp only [Act.put, List.setIfInBounds_toArray, List.set_cons_zero, List.set_cons_succ]
            refine wpAnyH_done (by kernel_rfl) ?_ _
            go_wp2_with fail
            refine (KB.out _).mono ?_
            rintro e w5 ⟨rfl, hb5⟩
            have B5 : Hid (Below w.heap.size w w5) := ((HBW.out.trans (A3.mono HBW.out.size)).trans (Below.drew (Below.refl _ _))).trans (hb5.mono (HBW.out.trans (A3.mono HBW.out.size)).size)
            clear hb5
            by_cases hN : 60 < u + N
            · have HQ : Hid (R = false) := HOv.out (by have := HRun.out; omega)
              have q5 : decide ((60 : Int) < (u : Int) + (N : Int)) = true := by rw [decide_eq_true_iff]; omega
              clear hN
              go_wp2
              go_ret
              exact ⟨ret_bool HQ.out.symm, B5.out⟩
            · have q5 : decide ((60 : Int) < (u : Int) + (N : Int)) = false := by rw [decide_eq_false_iff_not]; omega
              have HL : Hid (runU L (m + 1) ≤ 60) := by show _ ≤ _; have := HRun.out; omega
              have HV : Hid (runTo L (m + 2) = u + N) := HRun.out
              have HNl : Hid (runTo L ((m + 1) + 1) ≤ 60) := HL.out
              clear hN
              go_wp2
              go_roundw
              case rel => exact ⟨m + 2, by omega, val_int (by have := HV.out; omega), by go_num, HNl.out, HSt.out HL.out, B5⟩
              case measure => simp [intOf]; omega
          | false =>
            have HRun : Hid (runU L (m + 1) = N) := by show _ = _; rw [HRun0.out]; simp
            clear HRun0
            go_wp2_with fail
            rw [← hW0.out]
            clear hW0
            generalize hbb : wr.heap.size = b at *
            clear hbb HBr HB e0 e1 e2 
            refine wp_region_held_drew (S := (fun w' => w'.cell? ⟨b, 0, none⟩ = some (.string ke) ∧ w'.cell? ⟨b, 1, none⟩ = some (.string na) ∧ w'.cell? ⟨b, 2, none⟩ = some (.string va) ∧ w'.cell? ⟨g, m * 3, none⟩ = some (.string pk) ∧ w'.cell? ⟨g, m * 3 + 1, none⟩ = some (.string pn) ∧ w'.cell? ⟨g, m * 3 + 2, none⟩ = some (.string pv))) (by kernel_rfl) ?_ (fun hH0 => ?_)
            · (try dsimp only)
              go_keep
            refine wpAnyH_take (i := 0) (oi := { dst := some 16, op := Op.load 108 (Operand.tmp 5), type := 108, pos := "l07_area.go:61", after := #[], guard := none }) (v := ?vg0) rfl (by kernel_rfl) (by kernel_rfl) (by kernel_rfl) (fun _ _ _ h => h) (Or.inl ⟨by rfl, ?hyg0⟩) (by assumption) ?restg0
            case hyg0 =>
              intro w hSw
              (try dsimp only at hSw)
              go_simp
              try with_reducible rfl
            try simp only [Act.put, List.setIfInBounds_toArray, List.set_cons_zero, List.set_cons_succ]
            refine wpAnyH_ready (rs := [1]) (by kernel_rfl) (by simp) ?_
            refine AllReadyH.cons (o := { dst := some 17, op := Op.call { callee := Callee.value (Operand.func 188), args := #[Operand.tmp 16], argTypes := #[108] }, type := 4, pos := "l07_area.go:61", after := #[{ on := 0, ground := Ground.data }], guard := none }) rfl (fun K hK => ?_) AllReadyH.nil
            go_simp
            (go_at_call 188; refine (KE.out _).mono ?_; rintro e w2 ⟨rfl, hb2⟩; have A2 : Below W0.heap.size W0 w2 := (Below.drew (Below.refl _ _)).trans hb2; have x0 : w2.cell? ⟨b, 0, none⟩ = some (.string ke) := ((bcell A2).1 _ _ hbW).trans c0; have x1 : w2.cell? ⟨b, 1, none⟩ = some (.string na) := ((bcell A2).1 _ _ hbW).trans c1; have x2 : w2.cell? ⟨b, 2, none⟩ = some (.string va) := ((bcell A2).1 _ _ hbW).trans c2; have xp0 : w2.cell? ⟨g, m * 3, none⟩ = some (.string pk) := ((bcell A2).1 _ _ hgW).trans d0; have xp1 : w2.cell? ⟨g, m * 3 + 1, none⟩ = some (.string pn) := ((bcell A2).1 _ _ hgW).trans d1; have xp2 : w2.cell? ⟨g, m * 3 + 2, none⟩ = some (.string pv) := ((bcell A2).1 _ _ hgW).trans d2)
            try (go_wp2_with fail)
            refine hK.out _ _ ?_ (fun hH1 => ?_)
            · (try dsimp only)
              go_keep
            clear hK K hH0
            try simp only [Act.put, List.setIfInBounds_toArray, List.set_cons_zero, List.set_cons_succ]
            refine wpAnyH_take (i := 2) (oi := { dst := some 18, op := Op.unOp UnOp.not 4 (Operand.tmp 17), type := 4, pos := "l07_area.go:61", after := #[{ on := 1, ground := Ground.data }], guard := none }) (v := ?vg2) rfl (by kernel_rfl) (by kernel_rfl) (by kernel_rfl) (fun _ _ _ h => h) (Or.inl ⟨by rfl, ?hyg2⟩) (by assumption) ?restg2
            case hyg2 =>
              intro w hSw
              (try dsimp only at hSw)
              go_simp
              try with_reducible rfl
            try simp only [Act.put, List.setIfInBounds_toArray, List.set_cons_zero, List.set_cons_succ]
            refine wpAnyH_take (i := 3) (oi := { dst := some 19, op := Op.move (Operand.tmp 18), type := 4, pos := "l07_area.go:61", after := #[{ on := 2, ground := Ground.data }, { on := 1, ground := Ground.chain }], guard := none }) (v := ?vg3) rfl (by kernel_rfl) (by kernel_rfl) (by kernel_rfl) (fun _ _ _ h => h) (Or.inl ⟨by rfl, ?hyg3⟩) (by assumption) ?restg3
            case hyg3 =>
              intro w hSw
              (try dsimp only at hSw)
              go_simp
              try with_reducible rfl
            try simp only [Act.put, List.setIfInBounds_toArray, List.set_cons_zero, List.set_cons_succ]
            refine wpAnyH_take (i := 4) (oi := { dst := some 20, op := Op.move (Operand.tmp 4), type := 3, pos := "l07_area.go:61", after := #[{ on := 3, ground := Ground.guard }], guard := some (3, false) }) (v := ?vg4) rfl (by kernel_rfl) (by kernel_rfl) (by kernel_rfl) (fun _ _ _ h => h) (Or.inl ⟨by rfl, ?hyg4⟩) (by assumption) ?restg4
            case hyg4 =>
              intro w hSw
              (try dsimp only at hSw)
              go_simp
              try with_reducible rfl
            try simp only [Act.put, List.setIfInBounds_toArray, List.set_cons_zero, List.set_cons_succ]
            refine wpAnyH_take (i := 5) (oi := { dst := some 21, op := Op.binOp BinOp.gtr 3 (Operand.tmp 20) (Operand.const (Value.int IntKind.i64 0)) 3, type := 4, pos := "l07_area.go:61", after := #[{ on := 4, ground := Ground.data }, { on := 3, ground := Ground.guard }], guard := some (3, false) }) (v := ?vg5) rfl (by kernel_rfl) (by kernel_rfl) (by kernel_rfl) (fun _ _ _ h => h) (Or.inl ⟨by rfl, ?hyg5⟩) (by assumption) ?restg5
            case hyg5 =>
              intro w hSw
              (try dsimp only at hSw)
              go_simp
              try with_reducible rfl
            try simp only [Act.put, List.setIfInBounds_toArray, List.set_cons_zero, List.set_cons_succ]
            refine wpAnyH_take (i := 6) (oi := { dst := some 22, op := Op.move (Operand.tmp 21), type := 4, pos := "l07_area.go:61", after := #[{ on := 5, ground := Ground.data }, { on := 3, ground := Ground.chain }, { on := 3, ground := Ground.guard }], guard := some (3, false) }) (v := ?vg6) rfl (by kernel_rfl) (by kernel_rfl) (by kernel_rfl) (fun _ _ _ h => h) (Or.inl ⟨by rfl, ?hyg6⟩) (by assumption) ?restg6
            case hyg6 =>
              intro w hSw
              (try dsimp only at hSw)
              go_simp
              try with_reducible rfl
            try simp only [Act.put, List.setIfInBounds_toArray, List.set_cons_zero, List.set_cons_succ]
            refine wpAnyH_take (i := 7) (oi := { dst := some 23, op := Op.move (Operand.tmp 0), type := 54, pos := "l07_area.go:61", after := #[{ on := 6, ground := Ground.guard }], guard := some (6, true) }) (v := ?vg7) rfl (by kernel_rfl) (by kernel_rfl) (by kernel_rfl) (fun _ _ _ h => h) (Or.inl ⟨by rfl, ?hyg7⟩) (by assumption) ?restg7
            case hyg7 =>
              intro w hSw
              (try dsimp only at hSw)
              go_simp
              try with_reducible rfl
            try simp only [Act.put, List.setIfInBounds_toArray, List.set_cons_zero, List.set_cons_succ]
            refine wpAnyH_take (i := 8) (oi := { dst := some 24, op := Op.move (Operand.tmp 4), type := 3, pos := "l07_area.go:61", after := #[{ on := 6, ground := Ground.guard }], guard := some (6, true) }) (v := ?vg8) rfl (by kernel_rfl) (by kernel_rfl) (by kernel_rfl) (fun _ _ _ h => h) (Or.inl ⟨by rfl, ?hyg8⟩) (by assumption) ?restg8
            case hyg8 =>
              intro w hSw
              (try dsimp only at hSw)
              go_simp
              try with_reducible rfl
            try simp only [Act.put, List.setIfInBounds_toArray, List.set_cons_zero, List.set_cons_succ]
            refine wpAnyH_take (i := 9) (oi := { dst := some 25, op := Op.binOp BinOp.sub 3 (Operand.tmp 24) (Operand.const (Value.int IntKind.i64 1)) 3, type := 3, pos := "l07_area.go:61", after := #[{ on := 8, ground := Ground.data }, { on := 6, ground := Ground.guard }], guard := some (6, true) }) (v := ?vg9) rfl (by kernel_rfl) (by kernel_rfl) (by kernel_rfl) (fun _ _ _ h => h) (Or.inl ⟨by rfl, ?hyg9⟩) (by assumption) ?restg9
            case hyg9 =>
              intro w hSw
              (try dsimp only at hSw)
              go_simp
              try with_reducible rfl
            try simp only [Act.put, List.setIfInBounds_toArray, List.set_cons_zero, List.set_cons_succ]
            refine wpAnyH_take (i := 10) (oi := { dst := some 26, op := Op.indexAddr 54 (Operand.tmp 23) (Operand.tmp 25), type := 0, pos := "l07_area.go:61", after := #[{ on := 7, ground := Ground.data }, { on := 9, ground := Ground.data }, { on := 6, ground := Ground.guard }], guard := some (6, true) }) (v := ?vg10) rfl (by kernel_rfl) (by kernel_rfl) (by kernel_rfl) (fun _ _ _ h => h) (Or.inl ⟨by rfl, ?hyg10⟩) (by assumption) ?restg10
            case hyg10 =>
              intro w hSw
              (try dsimp only at hSw)
              go_simp
              try with_reducible rfl
            try simp only [Act.put, List.setIfInBounds_toArray, List.set_cons_zero, List.set_cons_succ]
            refine wpAnyH_take (i := 11) (oi := { dst := some 27, op := Op.load 108 (Operand.tmp 26), type := 108, pos := "l07_area.go:61", after := #[{ on := 10, ground := Ground.data }, { on := 6, ground := Ground.guard }], guard := some (6, true) }) (v := ?vg11) rfl (by kernel_rfl) (by kernel_rfl) (by kernel_rfl) (fun _ _ _ h => h) (Or.inl ⟨by rfl, ?hyg11⟩) (by assumption) ?restg11
            case hyg11 =>
              intro w hSw
              (try dsimp only at hSw)
              go_simp
              try with_reducible rfl
            try simp only [Act.put, List.setIfInBounds_toArray, List.set_cons_zero, List.set_cons_succ]
            refine wpAnyH_take (i := 12) (oi := { dst := some 28, op := Op.load 108 (Operand.tmp 5), type := 108, pos := "l07_area.go:61", after := #[{ on := 6, ground := Ground.guard }], guard := some (6, true) }) (v := ?vg12) rfl (by kernel_rfl) (by kernel_rfl) (by kernel_rfl) (fun _ _ _ h => h) (Or.inl ⟨by rfl, ?hyg12⟩) (by assumption) ?restg12
            case hyg12 =>
              intro w hSw
              (try dsimp only at hSw)
              go_simp
              try with_reducible rfl
            try simp only [Act.put, List.setIfInBounds_toArray, List.set_cons_zero, List.set_cons_succ]
            refine wpAnyH_ready (rs := [13]) (by kernel_rfl) (by simp) ?_
            refine AllReadyH.cons (o := { dst := some 29, op := Op.call { callee := Callee.value (Operand.func 146), args := #[Operand.tmp 27, Operand.tmp 28], argTypes := #[108, 108] }, type := 3, pos := "l07_area.go:61", after := #[{ on := 11, ground := Ground.data }, { on := 12, ground := Ground.data }, { on := 6, ground := Ground.chain }, { on := 6, ground := Ground.guard }], guard := some (6, true) }) rfl (fun K hK => ?_) AllReadyH.nil
            go_simp
            (go_at_call 146; refine (KO.out _).mono ?_; rintro e w3 ⟨rfl, hb3⟩; have A3 : Below W0.heap.size W0 w3 := A2.trans (hb3.mono A2.size); have y0 : w3.cell? ⟨b, 0, none⟩ = some (.string ke) := ((bcell A3).1 _ _ hbW).trans c0; have y1 : w3.cell? ⟨b, 1, none⟩ = some (.string na) := ((bcell A3).1 _ _ hbW).trans c1; have y2 : w3.cell? ⟨b, 2, none⟩ = some (.string va) := ((bcell A3).1 _ _ hbW).trans c2; have yp0 : w3.cell? ⟨g, m * 3, none⟩ = some (.string pk) := ((bcell A3).1 _ _ hgW).trans d0; have yp1 : w3.cell? ⟨g, m * 3 + 1, none⟩ = some (.string pn) := ((bcell A3).1 _ _ hgW).trans d1; have yp2 : w3.cell? ⟨g, m * 3 + 2, none⟩ = some (.string pv) := ((bcell A3).1 _ _ hgW).trans d2)
            try (go_wp2_with fail)
            refine hK.out _ _ ?_ (fun hH2 => ?_)
            · (try dsimp only)
              go_keep
            clear hK K hH1
            try simp only [Act.put, List.setIfInBounds_toArray, List.set_cons_zero, List.set_cons_succ]
            refine wpAnyH_take (i := 14) (oi := { dst := some 30, op := Op.binOp BinOp.geq 3 (Operand.tmp 29) (Operand.const (Value.int IntKind.i64 0)) 3, type := 4, pos := "l07_area.go:61", after := #[{ on := 13, ground := Ground.data }, { on := 6, ground := Ground.guard }], guard := some (6, true) }) (v := ?vg14) rfl (by kernel_rfl) (by kernel_rfl) (by kernel_rfl) (fun _ _ _ h => h) (Or.inl ⟨by rfl, ?hyg14⟩) (by assumption) ?restg14
            case hyg14 =>
              intro w hSw
              (try dsimp only at hSw)
              go_simp
              try with_reducible rfl
            try simp only [Act.put, List.setIfInBounds_toArray, List.set_cons_zero, List.set_cons_succ]
            refine wpAnyH_take (i := 15) (oi := { dst := some 31, op := Op.pick (Operand.tmp 22) (Operand.tmp 30) (Operand.const (Value.bool false)), type := 4, pos := "l07_area.go:61", after := #[{ on := 6, ground := Ground.data }, { on := 14, ground := Ground.data }, { on := 3, ground := Ground.guard }], guard := some (3, false) }) (v := ?vg15) rfl (by kernel_rfl) (by kernel_rfl) (by kernel_rfl) (fun _ _ _ h => h) (Or.inl ⟨by rfl, ?hyg15⟩) (by assumption) ?restg15
            case hyg15 =>
              intro w hSw
              (try dsimp only at hSw)
              go_simp
              try with_reducible rfl
            try simp only [Act.put, List.setIfInBounds_toArray, List.set_cons_zero, List.set_cons_succ]
            refine wpAnyH_take (i := 16) (oi := { dst := some 32, op := Op.pick (Operand.tmp 19) (Operand.const (Value.bool true)) (Operand.tmp 31), type := 4, pos := "l07_area.go:61", after := #[{ on := 3, ground := Ground.data }, { on := 15, ground := Ground.data }], guard := none }) (v := ?vg16) rfl (by kernel_rfl) (by kernel_rfl) (by kernel_rfl) (fun _ _ _ h => h) (Or.inl ⟨by rfl, ?hyg16⟩) (by assumption) ?restg16
            case hyg16 =>
              intro w hSw
              (try dsimp only at hSw)
              go_simp
              try with_reducible rfl
            try simp only [Act.put, List.setIfInBounds_toArray, List.set_cons_zero, List.set_cons_succ]
            refine wpAnyH_done (by kernel_rfl) ?_ _
            go_wp2_with fail
            refine wp_region_held_drew (S := (fun w' => w'.cell? ⟨b, 0, none⟩ = some (.string ke) ∧ w'.cell? ⟨b, 1, none⟩ = some (.string na) ∧ w'.cell? ⟨b, 2, none⟩ = some (.string va) ∧ w'.cell? ⟨g, m * 3, none⟩ = some (.string pk))) (by kernel_rfl) ?_ (fun hH0 => ?_)
            · (try dsimp only)
              go_keep
            refine wpAnyH_take (i := 0) (oi := { dst := some 33, op := Op.move (Operand.tmp 4), type := 3, pos := "l07_area.go:65", after := #[], guard := none }) (v := ?vh0) rfl (by kernel_rfl) (by kernel_rfl) (by kernel_rfl) (fun _ _ _ h => h) (Or.inl ⟨by rfl, ?hyh0⟩) (by assumption) ?resth0
            case hyh0 =>
              intro w hSw
              (try dsimp only at hSw)
              go_simp
              try with_reducible rfl
            try simp only [Act.put, List.setIfInBounds_toArray, List.set_cons_zero, List.set_cons_succ]
            refine wpAnyH_take (i := 1) (oi := { dst := some 34, op := Op.binOp BinOp.gtr 3 (Operand.tmp 33) (Operand.const (Value.int IntKind.i64 0)) 3, type := 4, pos := "l07_area.go:65", after := #[{ on := 0, ground := Ground.data }], guard := none }) (v := ?vh1) rfl (by kernel_rfl) (by kernel_rfl) (by kernel_rfl) (fun _ _ _ h => h) (Or.inl ⟨by rfl, ?hyh1⟩) (by assumption) ?resth1
            case hyh1 =>
              intro w hSw
              (try dsimp only at hSw)
              go_simp
              try with_reducible rfl
            try simp only [Act.put, List.setIfInBounds_toArray, List.set_cons_zero, List.set_cons_succ]
            refine wpAnyH_take (i := 2) (oi := { dst := some 35, op := Op.move (Operand.tmp 34), type := 4, pos := "l07_area.go:65", after := #[{ on := 1, ground := Ground.data }], guard := none }) (v := ?vh2) rfl (by kernel_rfl) (by kernel_rfl) (by kernel_rfl) (fun _ _ _ h => h) (Or.inl ⟨by rfl, ?hyh2⟩) (by assumption) ?resth2
            case hyh2 =>
              intro w hSw
              (try dsimp only at hSw)
              go_simp
              try with_reducible rfl
            try simp only [Act.put, List.setIfInBounds_toArray, List.set_cons_zero, List.set_cons_succ]
            refine wpAnyH_take (i := 3) (oi := { dst := some 36, op := Op.move (Operand.tmp 0), type := 54, pos := "l07_area.go:65", after := #[{ on := 2, ground := Ground.guard }], guard := some (2, true) }) (v := ?vh3) rfl (by kernel_rfl) (by kernel_rfl) (by kernel_rfl) (fun _ _ _ h => h) (Or.inl ⟨by rfl, ?hyh3⟩) (by assumption) ?resth3
            case hyh3 =>
              intro w hSw
              (try dsimp only at hSw)
              go_simp
              try with_reducible rfl
            try simp only [Act.put, List.setIfInBounds_toArray, List.set_cons_zero, List.set_cons_succ]
            refine wpAnyH_take (i := 4) (oi := { dst := some 37, op := Op.move (Operand.tmp 4), type := 3, pos := "l07_area.go:65", after := #[{ on := 2, ground := Ground.guard }], guard := some (2, true) }) (v := ?vh4) rfl (by kernel_rfl) (by kernel_rfl) (by kernel_rfl) (fun _ _ _ h => h) (Or.inl ⟨by rfl, ?hyh4⟩) (by assumption) ?resth4
            case hyh4 =>
              intro w hSw
              (try dsimp only at hSw)
              go_simp
              try with_reducible rfl
            try simp only [Act.put, List.setIfInBounds_toArray, List.set_cons_zero, List.set_cons_succ]
            refine wpAnyH_take (i := 5) (oi := { dst := some 38, op := Op.binOp BinOp.sub 3 (Operand.tmp 37) (Operand.const (Value.int IntKind.i64 1)) 3, type := 3, pos := "l07_area.go:65", after := #[{ on := 4, ground := Ground.data }, { on := 2, ground := Ground.guard }], guard := some (2, true) }) (v := ?vh5) rfl (by kernel_rfl) (by kernel_rfl) (by kernel_rfl) (fun _ _ _ h => h) (Or.inl ⟨by rfl, ?hyh5⟩) (by assumption) ?resth5
            case hyh5 =>
              intro w hSw
              (try dsimp only at hSw)
              go_simp
              try with_reducible rfl
            try simp only [Act.put, List.setIfInBounds_toArray, List.set_cons_zero, List.set_cons_succ]
            refine wpAnyH_take (i := 6) (oi := { dst := some 39, op := Op.indexAddr 54 (Operand.tmp 36) (Operand.tmp 38), type := 0, pos := "l07_area.go:65", after := #[{ on := 3, ground := Ground.data }, { on := 5, ground := Ground.data }, { on := 2, ground := Ground.guard }], guard := some (2, true) }) (v := ?vh6) rfl (by kernel_rfl) (by kernel_rfl) (by kernel_rfl) (fun _ _ _ h => h) (Or.inl ⟨by rfl, ?hyh6⟩) (by assumption) ?resth6
            case hyh6 =>
              intro w hSw
              (try dsimp only at hSw)
              go_simp
              try with_reducible rfl
            try simp only [Act.put, List.setIfInBounds_toArray, List.set_cons_zero, List.set_cons_succ]
            refine wpAnyH_take (i := 7) (oi := { dst := some 40, op := Op.fieldAddr 108 (Operand.tmp 39) 0, type := 0, pos := "l07_area.go:65", after := #[{ on := 6, ground := Ground.data }, { on := 2, ground := Ground.guard }], guard := some (2, true) }) (v := ?vh7) rfl (by kernel_rfl) (by kernel_rfl) (by kernel_rfl) (fun _ _ _ h => h) (Or.inl ⟨by rfl, ?hyh7⟩) (by assumption) ?resth7
            case hyh7 =>
              intro w hSw
              (try dsimp only at hSw)
              go_simp
              try with_reducible rfl
            try simp only [Act.put, List.setIfInBounds_toArray, List.set_cons_zero, List.set_cons_succ]
            refine wpAnyH_take (i := 8) (oi := { dst := some 41, op := Op.load 9 (Operand.tmp 40), type := 9, pos := "l07_area.go:65", after := #[{ on := 7, ground := Ground.data }, { on := 2, ground := Ground.guard }], guard := some (2, true) }) (v := ?vh8) rfl (by kernel_rfl) (by kernel_rfl) (by kernel_rfl) (fun _ _ _ h => h) (Or.inl ⟨by rfl, ?hyh8⟩) (by assumption) ?resth8
            case hyh8 =>
              intro w hSw
              (try dsimp only at hSw)
              go_simp
              try with_reducible rfl
            try simp only [Act.put, List.setIfInBounds_toArray, List.set_cons_zero, List.set_cons_succ]
            refine wpAnyH_take (i := 9) (oi := { dst := some 42, op := Op.fieldAddr 108 (Operand.tmp 5) 0, type := 0, pos := "l07_area.go:65", after := #[{ on := 2, ground := Ground.guard }], guard := some (2, true) }) (v := ?vh9) rfl (by kernel_rfl) (by kernel_rfl) (by kernel_rfl) (fun _ _ _ h => h) (Or.inl ⟨by rfl, ?hyh9⟩) (by assumption) ?resth9
            case hyh9 =>
              intro w hSw
              (try dsimp only at hSw)
              go_simp
              try with_reducible rfl
            try simp only [Act.put, List.setIfInBounds_toArray, List.set_cons_zero, List.set_cons_succ]
            refine wpAnyH_take (i := 10) (oi := { dst := some 43, op := Op.load 9 (Operand.tmp 42), type := 9, pos := "l07_area.go:65", after := #[{ on := 9, ground := Ground.data }, { on := 2, ground := Ground.guard }], guard := some (2, true) }) (v := ?vh10) rfl (by kernel_rfl) (by kernel_rfl) (by kernel_rfl) (fun _ _ _ h => h) (Or.inl ⟨by rfl, ?hyh10⟩) (by assumption) ?resth10
            case hyh10 =>
              intro w hSw
              (try dsimp only at hSw)
              go_simp
              try with_reducible rfl
            try simp only [Act.put, List.setIfInBounds_toArray, List.set_cons_zero, List.set_cons_succ]
            refine wpAnyH_take (i := 11) (oi := { dst := some 44, op := Op.binOp BinOp.neq 9 (Operand.tmp 41) (Operand.tmp 43) 9, type := 4, pos := "l07_area.go:65", after := #[{ on := 8, ground := Ground.data }, { on := 10, ground := Ground.data }, { on := 2, ground := Ground.guard }], guard := some (2, true) }) (v := ?vh11) rfl (by kernel_rfl) (by kernel_rfl) (by kernel_rfl) (fun _ _ _ h => h) (Or.inl ⟨by rfl, ?hyh11⟩) (by assumption) ?resth11
            case hyh11 =>
              intro w hSw
              (try dsimp only at hSw)
              go_simp
              try with_reducible rfl
            try simp only [Act.put, List.setIfInBounds_toArray, List.set_cons_zero, List.set_cons_succ]
            refine wpAnyH_take (i := 12) (oi := { dst := some 45, op := Op.pick (Operand.tmp 35) (Operand.tmp 44) (Operand.const (Value.bool false)), type := 4, pos := "l07_area.go:65", after := #[{ on := 2, ground := Ground.data }, { on := 11, ground := Ground.data }], guard := none }) (v := ?vh12) rfl (by kernel_rfl) (by kernel_rfl) (by kernel_rfl) (fun _ _ _ h => h) (Or.inl ⟨by rfl, ?hyh12⟩) (by assumption) ?resth12
            case hyh12 =>
              intro w hSw
              (try dsimp only at hSw)
              go_simp
              try with_reducible rfl
            try simp only [Act.put, List.setIfInBounds_toArray, List.set_cons_zero, List.set_cons_succ]
            refine wpAnyH_done (by kernel_rfl) ?_ _
            go_wp2_with fail
            refine (KB.out _).mono ?_
            rintro e w5 ⟨rfl, hb5⟩
            have B5 : Hid (Below w.heap.size w w5) := ((HBW.out.trans (A3.mono HBW.out.size)).trans (Below.drew (Below.refl _ _))).trans (hb5.mono (HBW.out.trans (A3.mono HBW.out.size)).size)
            clear hb5
            by_cases hN : 60 < N
            · have HQ : Hid (R = false) := HOv.out (by have := HRun.out; omega)
              have q5 : decide ((60 : Int) < (N : Int)) = true := by rw [decide_eq_true_iff]; omega
              clear hN
              go_wp2
              go_ret
              exact ⟨ret_bool HQ.out.symm, B5.out⟩
            · have q5 : decide ((60 : Int) < (N : Int)) = false := by rw [decide_eq_false_iff_not]; omega
              have HL : Hid (runU L (m + 1) ≤ 60) := by show _ ≤ _; have := HRun.out; omega
              have HV : Hid (runTo L (m + 2) = N) := HRun.out
              have HNl : Hid (runTo L ((m + 1) + 1) ≤ 60) := HL.out
              clear hN
              go_wp2
              go_roundw
              case rel => exact ⟨m + 2, by omega, val_int (by have := HV.out; omega), by go_num, HNl.out, HSt.out HL.out, B5⟩
              case measure => simp [intOf]; omega
    · obtain rfl : k = L.length := by omega
      have HQ : Hid (R = true) := HAll2.out HR.out
      go_wp2
      go_ret
      exact ⟨ret_bool HQ.out.symm, HB.out⟩
end Go.Proofs.YtimmoclemcnhnaaDoor

/- The walks of the program's roomBook and drop. -/
namespace Go.Proofs.YtimmoclemcnhnaaDoor
open Go.RowKit Go.Maps

theorem take_book {L : List En} {k : Nat} (hk : k < L.length) (hr : RiseE L) (hs : ∀ e, e ∈ L → smallE e) : ∀ x, x ∈ L.take (k + 1) ↔ x = atE L k ∨ (x ∈ L.take k ∧ keyE x ≠ keyE (atE L k)) := by
  intro x
  have e : L.take (k + 1) = L.take k ++ [L[k]] := by rw [List.take_append_getElem hk]
  rw [e, List.mem_append, List.mem_singleton, atE_get hk]
  constructor
  · rintro (h | h)
    · refine .inr ⟨h, ?_⟩
      have h1 : enLess x L[k] = true := by
        have hp : RiseE (L.take k ++ [L[k]]) := by rw [← e]; exact hr.sublist (List.take_sublist _ _)
        exact (List.pairwise_append.1 hp).2.2 x h L[k] (by simp)
      exact less_ne (hs x (List.mem_of_mem_take h)) (hs _ (List.getElem_mem hk)) h1
    · exact .inl h
  · rintro (h | h)
    · exact .inr h
    · exact .inl h.1
set_option maxRecDepth 10000 in
set_option maxHeartbeats 8000000 in
theorem roomBook_any (v : Value) (L : List En) (key : ByteArray) (B : Nat) (w : World) (hs : SliceE w B v L) (hn : L.length ≤ 1048576) (hz : ∀ i, i < L.length → (atE L i).na.size ≤ 1048576 ∧ (atE L i).va.size ≤ 1048576) :
    Calls Tryd.prog 141 #[v, .string key] w fun e w' => (((areaB L && keyB key) = true ∧ ∃ bm, e = .returned (.tuple #[.map (some bm), .nilIface]) ∧ w.heap.size ≤ bm ∧ BookL w' bm 16 L) ∨ ((areaB L && keyB key) = false ∧ e = .returned (.tuple #[.map none, .iface 153 (.agg #[.int .i64 1])]))) ∧ Below w.heap.size w w' := by
  have KA : Hid (∀ W, Below w.heap.size w W → Calls Tryd.prog 143 #[v] W fun e w' => e = .returned (.bool (areaB L)) ∧ Below W.heap.size W w') := fun W hb => areaRight_any v L B W (hs.below hb) hn hz
  have KK : Hid (∀ W, Calls Tryd.prog 183 #[.string key] W fun e w' => e = .returned (.bool (keyB key)) ∧ w' = W) := fun W => roomKey_any key W
  have HY : Hid (areaB L = true → L.length ≤ 16 ∧ RiseE L ∧ ∀ e, e ∈ L → smallE e) := fun h => ⟨(areaB_parts h).1, area_rise h, fun e he => (area_small h e he).1⟩
  obtain ⟨⟨p, cap, rfl, hg⟩, -⟩ := hs
  have HG : Hid (0 < L.length → ∃ g, p = some ⟨g, 0, none⟩ ∧ g < w.heap.size ∧ ∀ j, j < L.length → ∀ o, o < 3 → w.cell? ⟨g, j * 3 + o, none⟩ = some (enC (atE L j) o)) := fun h0 => by
    obtain ⟨g, e, -, hgw, hc⟩ := hg h0
    exact ⟨g, e, hgw, fun j hj o ho => (hc j hj o ho).1⟩
  clear hg hz
  have hmm := @run_makeMap Tryd.prog
  go_enter Tryd.func141, Tryd.ntmps141
  go_wp2_with fail
  refine (KA.out _ (Below.refl _ _)).mono ?_
  rintro e w1 ⟨rfl, hb1⟩
  have B1 : Hid (Below w.heap.size w w1) := hb1
  clear hb1 KA
  generalize hba : areaB L = ba at *
  have HBA : Hid (areaB L = ba) := hba
  clear hba
  cases ba with
  | false =>
    go_wp2
    go_ret2
    exact ⟨.inr ⟨by rw [HBA.out]; rfl, rfl⟩, B1.out⟩
  | true =>
  obtain ⟨h16, hrise, hsmall⟩ := HY.out rfl
  have HT : Hid (∀ k, k < L.length → ∀ x, x ∈ L.take (k + 1) ↔ x = atE L k ∨ (x ∈ L.take k ∧ keyE x ≠ keyE (atE L k))) := fun k hk => take_book hk hrise hsmall
  have HS : Hid (∀ k, k < L.length → smallE (atE L k)) := fun k hk => hsmall _ (by rw [atE_get hk]; exact List.getElem_mem hk)
  clear hrise hsmall HY
  go_wp2_with fail
  refine (KK.out _).mono ?_
  rintro e w2 ⟨rfl, rfl⟩
  generalize hbk : keyB key = bk at *
  have HBK : Hid (keyB key = bk) := hbk
  clear hbk
  cases bk with
  | false =>
    go_wp2
    go_ret2
    exact ⟨.inr ⟨by rw [HBA.out, HBK.out]; rfl, rfl⟩, B1.out⟩
  | true =>
  have B2 : Hid (Below w.heap.size w (w2.alloc (.map #[] 0))) := B1.out.alloc B1.out.size _
  have M2 : Hid (BookL (w2.alloc (.map #[] 0)) w2.heap.size 0 (L.take 0)) := book_made w2
  have hbm : w.heap.size ≤ w2.heap.size := B1.out.size
  clear KK
  go_wp2
  clear hmm
  generalize w2.heap.size = bm at *
  go_loopw [22] (fun i wr => ∃ k : Nat, k ≤ L.length ∧ i = .int .i64 k ∧ Hid (BookL wr bm k (L.take k)) ∧ Hid (Below w.heap.size w wr)) (fun i _ => L.length - (intOf i).toNat)
  case atStart => exact ⟨0, Nat.zero_le _, rfl, M2, B2⟩
  case round =>
    obtain ⟨k, hk, rfl, HM, HB⟩ := hrel
    by_cases hlt : k < L.length
    · obtain ⟨g, rfl, hgw, hc⟩ := HG.out (by omega)
      have c0 : wr.cell? ⟨g, k * 3, none⟩ = some (.string (atE L k).ke) := by rw [(bcell HB.out).1 _ _ hgw]; exact hc k hlt 0 (by omega)
      have c1 : wr.cell? ⟨g, k * 3 + 1, none⟩ = some (.string (atE L k).na) := by rw [(bcell HB.out).1 _ _ hgw]; exact hc k hlt 1 (by omega)
      have c2 : wr.cell? ⟨g, k * 3 + 2, none⟩ = some (.string (atE L k).va) := by rw [(bcell HB.out).1 _ _ hgw]; exact hc k hlt 2 (by omega)
      have k0 : (0 : Int) ≤ k := by omega
      have k1 : (k : Int) < L.length := by omega
      obtain ⟨D, hown, hD⟩ := HM.out
      have hkey := keyOf_E (HS.out k hlt)
      have HP : Hid (∀ w', w'.ownsMap Tryd.prog 158 enElem bm (k + 1) (D.put (keyE (atE L k)) (.held (atE L k))) → BookL w' bm (k + 1) (L.take (k + 1))) := fun w' h => book_put hown.isMap (HS.out k hlt) hD h (HT.out k hlt)
      have HO : Hid (wr.ownsMap Tryd.prog 158 enElem bm k D) := hown
      clear hc hD HM hown
      generalize keyE (atE L k) = kl at *
      generalize atE L k = y at *
      obtain ⟨ke, na, va⟩ := y
      dsimp only at *
      have hel : enElem (.agg #[.string ke, .string na, .string va]) = some (.held ⟨ke, na, va⟩, []) := rfl
      go_wp2_with (at_mapUpdate; go_must (refine wpList_mapUpdate_own _ rfl _ _ _ 111 rfl 158 108 placeKeyed Tryd.underlying111 _ bm k D rfl (HO.out.alloc _) (by unfold maxLen; omega) _ _ kl rfl rfl hkey _ [] hel ?_); intro w3 hown3 hg3)
      have B3 : Hid (Below w.heap.size w w3) := (HB.out.alloc HB.out.size _).grown hg3 (Nat.le_trans HB.out.size (by simp)) (fun j hj => by have := Option.some.inj hj; omega)
      have M3 : Hid (BookL w3 bm (k + 1) (L.take (k + 1))) := HP.out _ hown3
      clear hown3 hg3 HP HO
      go_wp2
      go_roundw
      case rel => exact ⟨k + 1, by omega, by go_num, M3, B3⟩
      case measure => simp [intOf]; omega
    · obtain rfl : k = L.length := by omega
      have M4 : Hid (BookL wr bm 16 L) := by
        have := HM.out
        rw [List.take_length] at this
        exact this.mono h16
      go_wp2
      go_ret2
      exact ⟨.inl ⟨by rw [HBA.out, HBK.out]; rfl, bm, rfl, hbm, M4.out⟩, HB.out⟩
end Go.Proofs.YtimmoclemcnhnaaDoor

/- The walk of the program's entryBook.list: copies of all, in order. -/
namespace Go.Proofs.YtimmoclemcnhnaaDoor
open Go.RowKit Go.Maps

/-- what has come of the book so far: those of the list whose places are struck -/
def CameE (L M : List En) (left : Lit → Bool) : Prop := M.Nodup ∧ ∀ e, e ∈ M ↔ e ∈ L ∧ left (keyE e) = false
theorem came_start {L : List En} {D : DataW En} (h : ∀ e, e ∈ L → smallE e ∧ Maps.has D (keyE e) = true ∧ ∀ zd, D.atKey (keyE e) zd = .held e) : CameE L [] (Maps.has D) := by
  refine ⟨List.nodup_nil, fun e => ⟨fun h => absurd h (by simp), fun ⟨h1, h2⟩ => ?_⟩⟩
  rw [(h e h1).2.1] at h2; cases h2
theorem came_next {L M : List En} {left : Lit → Bool} {c : En} (hM : CameE L M left) (hc : c ∈ L) (hl : left (keyE c) = true) (hone : ∀ a b, a ∈ L → b ∈ L → keyE a = keyE b → a = b) : CameE L (M ++ [c]) (fun z => left z && !z.sameKey (keyE c)) := by
  have hn : c ∉ M := fun h => by rw [((hM.2 c).1 h).2] at hl; cases hl
  refine ⟨List.nodup_append.2 ⟨hM.1, by simp, fun a ha b hb => by rintro rfl; rw [List.mem_singleton] at hb; subst hb; exact hn ha⟩, fun e => ?_⟩
  rw [List.mem_append, List.mem_singleton, hM.2 e]
  constructor
  · rintro (⟨h1, h2⟩ | rfl)
    · exact ⟨h1, by show (left (keyE e) && _) = false; rw [h2]; rfl⟩
    · refine ⟨hc, ?_⟩
      have : (keyE e).sameKey (keyE e) = true := WideAt.sameKey_self (keyE_lit e)
      show (left (keyE e) && !(keyE e).sameKey (keyE e)) = false
      rw [this, Bool.not_true, Bool.and_false]
  · rintro ⟨h1, h2⟩
    cases hq : left (keyE e) with
    | false => exact .inl ⟨h1, rfl⟩
    | true =>
      change (left (keyE e) && !(keyE e).sameKey (keyE c)) = false at h2
      rw [hq, Bool.true_and, Bool.not_eq_false'] at h2
      exact .inr (hone e c h1 hc (keyE_same h2))
theorem came_all {L M : List En} {left : Lit → Bool} (hM : CameE L M left) (h : ∀ kl, left kl = false) : ∀ e, e ∈ M ↔ e ∈ L := fun e => by rw [hM.2 e]; exact ⟨fun h => h.1, fun h1 => ⟨h1, h _⟩⟩
/-- what is sorted and has no place twice rises -/
theorem rise_sorted {L M : List En} (hone : ∀ a b, a ∈ L → b ∈ L → keyE a = keyE b → a = b) (hM : ∀ e, e ∈ M ↔ e ∈ L) (hn : M.Nodup) (hp : M.Pairwise fun a b => enLess b a = false) : RiseE M := by
  refine (hp.and hn).imp_of_mem fun {a b} ha hb h => ?_
  cases hl : enLess a b with
  | true => rfl
  | false => exact absurd (hone a b ((hM a).1 ha) ((hM b).1 hb) (keyE_of (enLess_same hl h.1))) h.2
set_option maxRecDepth 10000 in
set_option maxHeartbeats 8000000 in
theorem list_any (bm N : Nat) (L R : List En) (w : World) (hN : N ≤ 1000) (hm : BookL w bm N L) (hr : RiseE R) (hR : ∀ e, e ∈ R ↔ e ∈ L) :
    Calls Tryd.prog 95 #[.map (some bm)] w fun e w' => ∃ v, e = .returned v ∧ SliceE w' w.heap.size v R ∧ Below w.heap.size w w' := by
  have hone := hm.one
  have hlt := hm.lt
  obtain ⟨D, hown, hD1, hD2⟩ := hm
  have hsm : ∀ e, e ∈ L → smallE e := fun e he => (hD1 e he).1
  have hsz := hown.size_le
  obtain ⟨i0, hi, hy0, hy1, hy2⟩ := info_parts infoEntry
  have KC : Hid (∀ c, c ∈ L → ∀ W, Calls Tryd.prog 144 #[enV c] W fun e w' => e = .returned (enV c) ∧ Below W.heap.size W w') := fun c hc W => entryCopy_any c W (hsm c hc).1 (hsm c hc).2.1 (hsm c hc).2.2
  have HD : Hid (∀ kl (c : En), Maps.has D kl = true → (∀ zd, D.atKey kl zd = .held c) → c ∈ L ∧ keyE c = kl) := fun kl c h1 h2 => by
    obtain ⟨e, he, hk⟩ := hD2 kl h1
    have := (hD1 e he).2.2 .nil
    rw [hk, h2] at this
    injection this with this
    subst this
    exact ⟨he, hk⟩
  have HN : Hid (∀ (M : List En) (left : Lit → Bool) (c : En), CameE L M left → c ∈ L → left (keyE c) = true → CameE L (M ++ [c]) (fun z => left z && !z.sameKey (keyE c))) := fun M left c h1 h2 h3 => came_next h1 h2 h3 hone
  have HF : Hid (∀ (M : List En) (left : Lit → Bool), CameE L M left → (∀ kl, left kl = false) → ∀ M' : List En, M'.Perm M → (M'.Pairwise fun a b => enLess b a = false) → M' = R) := fun M left h1 h2 M' hp hs => by
    have ha := came_all h1 h2
    have hb : ∀ e, e ∈ M' ↔ e ∈ L := fun e => (hp.mem_iff).trans (ha e)
    exact rise_eq (rise_sorted hone hb (hp.nodup_iff.2 h1.1) hs) hr (fun x => (hb x).trans (hR x).symm)
  have H0 : Hid (CameE L [] (Maps.has D)) := came_start hD1
  have O0 : Hid (∀ (W : World), W.ownsRow (w.heap.size + 1) 108 3 (.slice none 0 0) 0 (enCells [])) := fun W => World.ownsRow_nil _ _ _ _
  have HW : Hid (w.ownsMap Tryd.prog 158 enElem bm N D) := hown
  clear hD1 hD2 hsm hone hr hR hown
  go_enter Tryd.func95, Tryd.ntmps95
  go_wp2_with (at_range; refine wpList_range_own _ rfl _ 111 rfl 158 108 placeKeyed Tryd.underlying111 enElem bm N D rfl HW.out ?_; intro w0 hrg0 hg0 hs0)
  have B0 : Hid (Below w.heap.size w w0) := Below.grown (Below.refl _ _) hg0 (Nat.le_refl _) (fun j hj => by cases hj)
  have R0 : Hid (w0.ranges Tryd.prog 158 enElem bm w.heap.size N D (Maps.has D) (Maps.size D)) := hrg0
  clear hrg0 hg0
  have HL0 : Hid (∀ kl, Maps.has D kl = true → Maps.has D kl = true) := fun _ h => h
  go_frame
  generalize Maps.size D = c0 at *
  generalize Maps.has D = l0 at *
  have OW := O0.out w
  go_loopw [3] (fun v wr => ∃ (left : Lit → Bool) (cnt : Nat) (M : List En), M.length + cnt ≤ N ∧ Hid (wr.ranges Tryd.prog 158 enElem bm w.heap.size N D left cnt) ∧ Hid (CameE L M left) ∧ Hid (∀ kl, left kl = true → l0 kl = true) ∧ Hid (wr.ownsRow (w.heap.size + 1) 108 3 v M.length (enCells M)) ∧ Hid (Below w.heap.size w wr)) (fun _ wr => wr.rangeLeft bm w.heap.size)
  case atStart => exact ⟨l0, c0, [], by simpa using hsz, R0, H0, HL0, O0.out _, B0⟩
  case round =>
    obtain ⟨left, cnt, M, hc, HR, HM, HL, HO, HB⟩ := hrel
    have hws : w.heap.size ≤ wr.heap.size := HB.out.size
    have hrl := HR.out.left_eq
    go_wp2_with (first | (at_next; refine wpList_next_ranges _ rfl _ rfl 158 placeKeyed enElem (fun x : ByteArray × ByteArray => .agg #[.string x.1, .string x.2]) enV (fun key kl h => keyOf_place_inv h) (fun v y h => by obtain ⟨e, h1, h2⟩ := enElem_inv h; exact ⟨e, h1⟩) bm w.heap.size N D left cnt rfl HR.out ?_ ?_) | go_in)
    · intro hc0 hl0
      have HE : Hid (∀ M' : List En, M'.Perm M → (M'.Pairwise fun a b => enLess b a = false) → M' = R) := HF.out M left HM.out hl0
      clear HF HM HL HR hl0 hc0
      go_wp2_with fail
      refine (sortE_any M _ _ _ HO.out (by omega)).mono ?_
      rintro e w1 ⟨rfl, M', hp, hso, hs1, hb1⟩
      obtain rfl : M' = R := HE.out M' hp hso
      have S1 : Hid (SliceE w1 w.heap.size _ M') := hs1.mono (Nat.le_succ _)
      have B1 : Hid (Below w.heap.size w w1) := HB.out.trans ((hb1.mono (Nat.le_succ _)))
      clear hs1 hb1 hp hso
      go_wp2
      go_ret
      exact ⟨_, rfl, S1.out, B1.out⟩
    · intro ka kb c kl yd yp w1 cnt1 hkey hlk hy hat hrg1 hlt1 hg1 hs1 hen
      obtain ⟨rfl, rfl⟩ : yd = .held c ∧ yp = [] := by
        have := Option.some.inj ((enElem_mk c).symm.trans hy)
        exact ⟨(congrArg Prod.fst this).symm, (congrArg Prod.snd this).symm⟩
      obtain ⟨hcL, rfl⟩ := HD.out kl c (HL.out kl hlk) hat
      have KC1 : Hid (∀ W, Calls Tryd.prog 144 #[.agg #[.string c.ke, .string c.na, .string c.va]] W fun e w' => e = .returned (.agg #[.string c.ke, .string c.na, .string c.va]) ∧ Below W.heap.size W w') := KC.out c hcL
      have M1 : Hid (CameE L (M ++ [c]) (fun z => left z && !z.sameKey (keyE c))) := HN.out M left c HM.out hcL hlk
      have L1 : Hid (∀ kl, (left kl && !kl.sameKey (keyE c)) = true → l0 kl = true) := fun kl h => HL.out kl (by rw [Bool.and_eq_true] at h; exact h.1)
      have B1 : Hid (Below w.heap.size w w1) := HB.out.grown hg1 hws (fun j hj => by have := Option.some.inj hj; omega)
      have O1 : Hid (w1.ownsRow (w.heap.size + 1) 108 3 _ M.length (enCells M)) := ownE_keep HO.out hg1 (fun g hg e => by have := own_base HO.out g hg; have := Option.some.inj e; omega)
      have R1 : Hid (w1.ranges Tryd.prog 158 enElem bm w.heap.size N D (fun z => left z && !z.sameKey (keyE c)) cnt1) := hrg1
      have hen1 : (Instr.entry (.pointer (some ⟨w.heap.size, 0, none⟩))).run Tryd.prog w1 = .ok (.tuple #[.agg #[.string ka, .string kb], .agg #[.string c.ke, .string c.na, .string c.va]]) w1 := hen
      have HEC : Hid (∀ v' (w' : World), w'.ownsRow (w.heap.size + 1) 108 3 v' (M.length + 1) (enCells M ++ enVals c) → w'.ownsRow (w.heap.size + 1) 108 3 v' (M ++ [c]).length (enCells (M ++ [c]))) := fun v' w' h => by rw [← enCells_snoc, List.length_append]; exact h
      clear hen hrg1 hat hkey hlk hy KC HN HD HF HL HM HR HO H0 HL0 R0
      generalize hkc : keyE c = kc at *
      clear hkc
      obtain ⟨ke, na, va⟩ := c
      dsimp only at *
      have hw1 : w.heap.size ≤ w1.heap.size := B1.out.size
      obtain ⟨W0, hW⟩ : ∃ W0, W0 = w1.alloc (.cells #[.string ke, .string na, .string va] 108) := ⟨_, rfl⟩
      have hW0 : Hid (W0 = w1.alloc (.cells #[.string ke, .string na, .string va] 108)) := hW
      have HB0 : Hid (Below w1.heap.size w1 W0) := by show Below _ _ _; rw [hW]; exact (Below.refl _ _).alloc (Nat.le_refl _) _
      have n0 : W0.cell? ⟨wr.heap.size, 0, none⟩ = some (.string ke) := by rw [hW, ← hs1]; simp
      have n1 : W0.cell? ⟨wr.heap.size, 1, none⟩ = some (.string na) := by rw [hW, ← hs1]; simp
      have n2 : W0.cell? ⟨wr.heap.size, 2, none⟩ = some (.string va) := by rw [hW, ← hs1]; simp
      clear hW
      have hr1 : Hid (W0.ranges Tryd.prog 158 enElem bm w.heap.size N D (fun z => left z && !z.sameKey kc) cnt1) := by
        show World.ranges _ _ _ _ _ _ _ _ _ _
        rw [hW0.out]; exact R1.out.alloc _
      have ho1 : Hid (W0.ownsRow (w.heap.size + 1) 108 3 _ M.length (enCells M)) := ownR_below O1.out HB0.out
      have hb1 : Hid (Below w.heap.size w W0) := B1.out.trans (HB0.out.mono hw1)
      go_upto_region 5 with fail
      rw [← hW0.out]
      clear hW0 R1 O1 B1 hen1
      go_wp2_with fail
      refine (KC1.out _).mono ?_
      rintro e w2 ⟨rfl, hb2⟩
      have hw2 : w.heap.size ≤ w2.heap.size := Nat.le_trans hb1.out.size hb2.size
      have R2 : Hid (w2.ranges Tryd.prog 158 enElem bm w.heap.size N D (fun z => left z && !z.sameKey kc) cnt1) := hr1.out.kept (row := none) ⟨hb2.os, hb2.tape, hb2.output, hb2.size, fun i hi _ => hb2.block i hi⟩ (by simp) (by simp)
      have O2 : Hid (w2.ownsRow (w.heap.size + 1) 108 3 _ M.length (enCells M)) := ownR_below ho1.out hb2
      have B2 : Hid (Below w.heap.size w w2) := hb1.out.trans (hb2.mono hb1.out.size)
      clear hb2 KC1 HB0 ho1 hb1 hr1 n0 n1 n2
      go_wp2_with (at_builtin; go_must (refine wpList_append_own _ rfl _ _ 54 rfl (w.heap.size + 1) 108 i0 (.agg #[.string ⟨#[]⟩, .string ⟨#[]⟩, .string ⟨#[]⟩]) 3 48 Tryd.underlying54 hi hy0 hy1 hy2 rfl (by decide) _ _ _ rfl (O2.out.alloc _) ⟨w2.heap.size, 0, none⟩ 1 1 (enVals ⟨ke, na, va⟩) rfl rfl (cell_En _ ⟨ke, na, va⟩ _) (one_En ⟨ke, na, va⟩) (by unfold maxLen; omega) (by omega) (by simp; omega) ?_))
      intro v1 w3 ho3 hg3 hn3
      have R3 : Hid (w3.ranges Tryd.prog 158 enElem bm w.heap.size N D (fun z => left z && !z.sameKey kc) cnt1) := (R2.out.alloc _).kept hg3 (fun e => by have := own_base O2.out _ e.symm; omega) (fun e => by have := own_base O2.out _ e.symm; omega)
      have B3 : Hid (Below w.heap.size w w3) := (B2.out.alloc B2.out.size _).grown hg3 (Nat.le_trans B2.out.size (by simp)) (fun j hj => by have := own_base O2.out j hj; omega)
      have O3 := HEC.out _ _ ho3
      have O4 : Hid (w3.ownsRow (w.heap.size + 1) 108 3 v1 (M ++ [(⟨ke, na, va⟩ : En)]).length (enCells (M ++ [(⟨ke, na, va⟩ : En)]))) := O3
      have hl3 : (M ++ [(⟨ke, na, va⟩ : En)]).length + cnt1 ≤ N := by rw [List.length_append]; show M.length + 1 + cnt1 ≤ N; omega
      have hrl3 := R3.out.left_eq
      clear ho3 hg3 hn3 HEC R2 O2 B2 O3
      go_wp2
      go_roundw
      case rel => exact ⟨_, cnt1, _, hl3, R3, M1, L1, O4, B3⟩
      case measure => rw [hrl3, hrl]; omega
end Go.Proofs.YtimmoclemcnhnaaDoor

/- The walks of the program's room and drop. -/
namespace Go.Proofs.YtimmoclemcnhnaaDoor
open Go.RowKit Go.Maps

set_option maxRecDepth 10000 in
set_option maxHeartbeats 4000000 in
theorem drop_any (bm N : Nat) (L : List En) (c : En) (w : World) (hm : BookL w bm N L) (hc : smallE c) :
    Calls Tryd.prog 100 #[.map (some bm), enV c] w fun e w' => e = .returned (.tuple #[]) ∧ (∀ L', (∀ x, x ∈ L' ↔ x ∈ L ∧ keyE x ≠ keyE c) → BookL w' bm N L') ∧ w.grownBy w' (some bm) := by
  have hlt := hm.lt
  obtain ⟨D, hown, hD⟩ := hm
  have HX : Hid (∀ w' L', w'.ownsMap Tryd.prog 158 enElem bm N (D.del (keyE c)) → (∀ x, x ∈ L' ↔ x ∈ L ∧ keyE x ≠ keyE c) → BookL w' bm N L') := fun w' L' h1 h2 => book_del hD h1 h2
  have hkey := keyOf_E hc
  have HO : Hid (w.ownsMap Tryd.prog 158 enElem bm N D) := hown
  clear hD hown hc
  generalize keyE c = kl at *
  obtain ⟨ke, na, va⟩ := c
  unfold enV
  dsimp only at *
  go_enter Tryd.func100, Tryd.ntmps100
  go_wp2_with (at_delete; go_must (refine wpList_delete_own _ rfl _ _ 111 158 rfl 108 placeKeyed Tryd.underlying111 enElem bm N D rfl (HO.out.alloc _) _ kl rfl hkey ?_); intro w2 hown2 hturn)
  have B2 : Hid (w.grownBy w2 (some bm)) := (World.grownBy_alloc w _ (some bm)).andThen hturn.grown (fun j hj => .inr hj)
  go_wp2
  go_end0
  exact ⟨rfl, fun L' h => HX.out _ L' hown2 h, B2.out⟩
end Go.Proofs.YtimmoclemcnhnaaDoor
