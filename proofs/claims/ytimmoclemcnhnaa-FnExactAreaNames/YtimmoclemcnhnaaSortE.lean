/- slices.SortFunc at entries, by their order: what the row holds then. -/
import Derived.Test.YtimmoclemcnhnaaRoomT
import Derived.Test.YtimmoclemcnhnaaImplEntry
import Derived.Test.YtimmoclemcnhnaaEntryOwn
import Derived.Test.YtimmoclemcnhnaaShelfSortE
import Derived.Shelf.SlSortCmp.NoneTotal
namespace Go.Proofs.Ytimmoclemcnhnaa
open Go.RowKit Go.Sort Go.Lib

instance : Inhabited En := ⟨enNone⟩
theorem ltE (x y : En) : ltOf ordE x y = enLess x y := by
  have h := ordE_neg x y
  unfold ltOf
  cases hl : enLess x y with
  | true => rw [hl] at h; rw [decide_eq_true_iff]; have := of_decide_eq_false (h.trans rfl); omega
  | false => rw [hl] at h; rw [decide_eq_false_iff_not]; have := of_decide_eq_true (h.trans rfl); omega
theorem enLess_left {a b c : En} (h : a.ke.data.toList = b.ke.data.toList ∧ a.na.data.toList = b.na.data.toList) (hl : enLess a c = true) : enLess b c = true := by
  rw [enLess_iff] at *
  rw [← h.1, ← h.2]; exact hl
theorem swoE : SWO (ltOf ordE) where
  irrefl x := by rw [ltE]; exact enLess_irrefl x
  trans x y z h1 h2 := by rw [ltE] at *; exact enLess_trans h1 h2
  ntrans x y z h1 h2 := by
    rw [ltE] at *
    cases hz : enLess x z with
    | false => rfl
    | true =>
      exfalso
      cases hy : enLess y x with
      | true => have := enLess_trans hy hz; rw [h2] at this; cases this
      | false => have := enLess_left (enLess_same h1 hy) hz; rw [h2] at this; cases this
theorem cmpE (blk off n : Nat) (w : World) : CmpLays Try.prog 30 #[] enVals 3 ordE blk off n w := fun _ _ _ _ x y => entryOrder_any x y _
theorem flat_at (M : List En) (i o : Nat) (ho : o < 3) (hi : i < M.length) : (enVals (M.toArray[i]!))[o]! = enC (atE M i) o := by
  have e : M.toArray[i]! = atE M i := by simp [atE, hi]
  rw [e]
  match o, ho with
  | 0, _ => rfl
  | 1, _ => rfl
  | 2, _ => rfl
theorem holdsE {w : World} {g : Nat} {M : List En} (h : ∀ j, j < M.length → ∀ o, o < 3 → w.cell? ⟨g, j * 3 + o, none⟩ = some (enC (atE M j) o) ∧ w.frozen? ⟨g, j * 3 + o, none⟩ = false) : HoldsK enVals 3 w g 0 M.toArray := by
  intro t ht
  rw [size_flatK, List.size_toArray] at ht
  have h1 : t / 3 < M.length := by omega
  have h2 : t % 3 < 3 := Nat.mod_lt _ (by decide)
  have e : 0 + t = t / 3 * 3 + t % 3 := by omega
  rw [get_flatK _ _ _ _ (by rw [List.size_toArray]; exact ht), flat_at M _ _ h2 h1, e]
  exact h _ h1 _ h2
theorem sortW_below {w : World} {g n B : Nat} {d : Array En} {os : Array Obj} (hg : g < w.heap.size) (hB : B ≤ g) : Below B w (sortWorldK enVals 3 w g 0 n d os) := by
  refine ⟨rfl, rfl, rfl, size_sortWorldK_c _ _ _ _ _ _ _ _, fun k hk => ?_⟩
  unfold sortWorldK
  rw [heap_grow_old _ _ (by unfold putRowK; rw [size_putRow]; show k < w.heap.size; omega)]
  unfold putRowK putRow mapBlock
  show (w.heap.modify g _)[k]? = _
  rw [Array.getElem?_modify, if_neg (by omega)]
set_option maxRecDepth 10000 in
set_option maxHeartbeats 4000000 in
theorem sortE_any (M : List En) (v : Value) (B : Nat) (w : World) (ho : w.ownsRow B 41 3 v M.length (enCells M)) (hn : M.length ≤ 1048576) :
    Calls Try.prog 46 #[v, .func (.func 30) #[] #[]] w fun e w' => e = .returned (.tuple #[]) ∧ ∃ M' : List En, M'.Perm M ∧ (M'.Pairwise fun a b => enLess b a = false) ∧ SliceE w' B v M' ∧ Below B w w' := by
  have hs := sliceE_of_own ho
  obtain ⟨⟨p, cap, rfl, hc⟩, p2, c2, e2, hcap⟩ := hs
  injection e2 with e3 _ e4
  subst e3 e4
  by_cases h0 : 0 < M.length
  · obtain ⟨g, rfl, hB, hg, hcell⟩ := hc h0
    have eg : ∀ args w, (callFunc 30 args).run Try.prog w = .ok (.enter 30 args) w := enters_of Try.func30 (by kernel_rfl) rfl
    have hH : HoldsK enVals 3 w g 0 M.toArray := holdsE hcell
    have hcon := AnyQ.slices_SortFunc Try.laysSortE 3 Try.isAgg41 Try.sizeOf41 enVals (fun _ => rfl) one_En ordE swoE 30 #[] g 0 cap M.toArray w eg (cmpE g 0 M.toArray.size w) hH hg (by rw [List.size_toArray]; omega)
    have hcon2 : Calls Try.prog 46 #[.slice (some ⟨g, 0, none⟩) M.length cap, .func (.func 30) #[] #[]] w _ := hcon
    refine hcon2.mono ?_
    rintro e w' ⟨rfl, d', n, os, hp, hsrt, rfl⟩
    refine ⟨rfl, d'.toList, ?_, ?_, ?_, sortW_below hg hB⟩
    · have h3 := hp.2.2
      rw [Array.extract_eq_self_of_le (Nat.le_refl _), Array.extract_eq_self_of_le (Nat.le_of_eq hp.1)] at h3
      exact h3
    · rw [List.pairwise_iff_getElem]
      intro i j hi hj hij
      have hj' : j < d'.size := by simpa using hj
      have := hsrt i j (Nat.zero_le _) hij (by rw [← hp.1]; exact hj')
      rw [ltE, getElem!_pos d' i (by omega), getElem!_pos d' j hj'] at this
      simpa using this
    · have hlen : d'.toList.length = M.length := by rw [Array.length_toList, hp.1, List.size_toArray]
      have hh := holdsK_sortWorldK_c enVals 3 w g 0 M.toArray d' n os hH hg hp.1
      refine ⟨⟨_, cap, by rw [hlen], fun _ => ⟨g, rfl, hB, ?_, fun j hj o ho => ?_⟩⟩, _, cap, by rw [hlen], by rw [hlen]; exact hcap⟩
      · exact Nat.lt_of_lt_of_le hg (size_sortWorldK_c _ _ _ _ _ _ _ _)
      · have hc3 := hh.cell (i := j) (c := o) (by simpa using hj) ho
        rw [Nat.zero_add] at hc3
        rw [hc3.1]
        refine ⟨?_, hc3.2⟩
        have := flat_at d'.toList j o ho hj
        rw [Array.toArray_toList] at this
        rw [this]; rfl
  · obtain rfl : M = [] := List.length_eq_zero_iff.1 (by omega)
    have hcon : Calls Try.prog 46 #[.slice p 0 cap, .func (.func 30) #[] #[]] w _ := AnyF.slices_SortFunc_none Try.laysSortE p cap (.func (.func 30) #[] #[]) w
    refine hcon.mono ?_
    rintro e w' ⟨rfl, rfl⟩
    exact ⟨rfl, [], List.Perm.nil, List.Pairwise.nil, ⟨⟨p, cap, rfl, fun h => absurd h (by simp)⟩, p, cap, rfl, Nat.zero_le _⟩, Below.refl _ _⟩
end Go.Proofs.Ytimmoclemcnhnaa
