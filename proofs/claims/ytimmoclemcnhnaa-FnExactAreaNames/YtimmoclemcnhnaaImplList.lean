/- The walk of the program's entryBook.list: copies of all, in order. -/
import Derived.Test.YtimmoclemcnhnaaSortE
import Derived.Test.YtimmoclemcnhnaaImplECopy
import Derived.Test.YtimmoclemcnhnaaImplRoom
namespace Go.Proofs.Ytimmoclemcnhnaa
open Go.RowKit Go.Maps

/-- what has come of the book so far: those of the list whose places are struck -/
def CameE (L M : List En) (left : Lit → Bool) : Prop := M.Nodup ∧ ∀ e, e ∈ M ↔ e ∈ L ∧ left (keyE e) = false
theorem came_start {L : List En} {D : DataW En} (h : ∀ e, e ∈ L → smallE e ∧ Maps.has D (keyE e) = true ∧ ∀ zd, D.atKey (keyE e) zd = .held e) : CameE L [] (Maps.has D) := by
  refine ⟨List.nodup_nil, fun e => ⟨fun h => absurd h (by simp), fun ⟨h1, h2⟩ => ?_⟩⟩
  rw [(h e h1).2.1] at h2; cases h2
theorem came_next {L M : List En} {left : Lit → Bool} {c : En} (hM : CameE L M left) (hc : c ∈ L) (hl : left (keyE c) = true) (hone : ∀ a b, a ∈ L → b ∈ L → keyE a = keyE b → a = b) : CameE L (M ++ [c]) (fun z => left z && !z.sameKey (keyE c)) := by
  have hn : c ∉ M := fun h => by rw [((hM.2 c).1 h).2] at hl; cases hl
  refine ⟨List.nodup_append.2 ⟨hM.1, by simp, fun a ha b hb => by rintro rfl; rw [List.mem_singleton] at hb; subst hb; exact hn ha⟩, fun e => ?_⟩
  rw [List.mem_append, List.mem_singleton, hM.2 e]
  constructor
  · rintro (⟨h1, h2⟩ | rfl)
    · exact ⟨h1, by show (left (keyE e) && _) = false; rw [h2]; rfl⟩
    · refine ⟨hc, ?_⟩
      have : (keyE e).sameKey (keyE e) = true := WideAt.sameKey_self (keyE_lit e)
      show (left (keyE e) && !(keyE e).sameKey (keyE e)) = false
      rw [this, Bool.not_true, Bool.and_false]
  · rintro ⟨h1, h2⟩
    cases hq : left (keyE e) with
    | false => exact .inl ⟨h1, rfl⟩
    | true =>
      change (left (keyE e) && !(keyE e).sameKey (keyE c)) = false at h2
      rw [hq, Bool.true_and, Bool.not_eq_false'] at h2
      exact .inr (hone e c h1 hc (keyE_same h2))
theorem came_all {L M : List En} {left : Lit → Bool} (hM : CameE L M left) (h : ∀ kl, left kl = false) : ∀ e, e ∈ M ↔ e ∈ L := fun e => by rw [hM.2 e]; exact ⟨fun h => h.1, fun h1 => ⟨h1, h _⟩⟩
/-- what is sorted and has no place twice rises -/
theorem rise_sorted {L M : List En} (hone : ∀ a b, a ∈ L → b ∈ L → keyE a = keyE b → a = b) (hM : ∀ e, e ∈ M ↔ e ∈ L) (hn : M.Nodup) (hp : M.Pairwise fun a b => enLess b a = false) : RiseE M := by
  refine (hp.and hn).imp_of_mem fun {a b} ha hb h => ?_
  cases hl : enLess a b with
  | true => rfl
  | false => exact absurd (hone a b ((hM a).1 ha) ((hM b).1 hb) (keyE_of (enLess_same hl h.1))) h.2
set_option maxRecDepth 10000 in
set_option maxHeartbeats 8000000 in
theorem list_any (bm N : Nat) (L R : List En) (w : World) (hN : N ≤ 1000) (hm : BookL w bm N L) (hr : RiseE R) (hR : ∀ e, e ∈ R ↔ e ∈ L) :
    Calls Try.prog 38 #[.map (some bm)] w fun e w' => ∃ v, e = .returned v ∧ SliceE w' w.heap.size v R ∧ Below w.heap.size w w' := by
  have hone := hm.one
  have hlt := hm.lt
  obtain ⟨D, hown, hD1, hD2⟩ := hm
  have hsm : ∀ e, e ∈ L → smallE e := fun e he => (hD1 e he).1
  have hsz := hown.size_le
  obtain ⟨i0, hi, hy0, hy1, hy2⟩ := info_parts infoEntry
  have KC : Hid (∀ c, c ∈ L → ∀ W, Calls Try.prog 45 #[enV c] W fun e w' => e = .returned (enV c) ∧ Below W.heap.size W w') := fun c hc W => entryCopy_any c W (hsm c hc).1 (hsm c hc).2.1 (hsm c hc).2.2
  have HD : Hid (∀ kl (c : En), Maps.has D kl = true → (∀ zd, D.atKey kl zd = .held c) → c ∈ L ∧ keyE c = kl) := fun kl c h1 h2 => by
    obtain ⟨e, he, hk⟩ := hD2 kl h1
    have := (hD1 e he).2.2 .nil
    rw [hk, h2] at this
    injection this with this
    subst this
    exact ⟨he, hk⟩
  have HN : Hid (∀ (M : List En) (left : Lit → Bool) (c : En), CameE L M left → c ∈ L → left (keyE c) = true → CameE L (M ++ [c]) (fun z => left z && !z.sameKey (keyE c))) := fun M left c h1 h2 h3 => came_next h1 h2 h3 hone
  have HF : Hid (∀ (M : List En) (left : Lit → Bool), CameE L M left → (∀ kl, left kl = false) → ∀ M' : List En, M'.Perm M → (M'.Pairwise fun a b => enLess b a = false) → M' = R) := fun M left h1 h2 M' hp hs => by
    have ha := came_all h1 h2
    have hb : ∀ e, e ∈ M' ↔ e ∈ L := fun e => (hp.mem_iff).trans (ha e)
    exact rise_eq (rise_sorted hone hb (hp.nodup_iff.2 h1.1) hs) hr (fun x => (hb x).trans (hR x).symm)
  have H0 : Hid (CameE L [] (Maps.has D)) := came_start hD1
  have O0 : Hid (∀ (W : World), W.ownsRow (w.heap.size + 1) 41 3 (.slice none 0 0) 0 (enCells [])) := fun W => World.ownsRow_nil _ _ _ _
  have HW : Hid (w.ownsMap Try.prog 63 enElem bm N D) := hown
  clear hD1 hD2 hsm hone hr hR hown
  go_enter Try.func38, Try.ntmps38
  go_wp2_with (at_range; refine wpList_range_own _ rfl _ 49 rfl 63 41 placeKeyed Try.underlying49 enElem bm N D rfl HW.out ?_; intro w0 hrg0 hg0 hs0)
  have B0 : Hid (Below w.heap.size w w0) := Below.grown (Below.refl _ _) hg0 (Nat.le_refl _) (fun j hj => by cases hj)
  have R0 : Hid (w0.ranges Try.prog 63 enElem bm w.heap.size N D (Maps.has D) (Maps.size D)) := hrg0
  clear hrg0 hg0
  have HL0 : Hid (∀ kl, Maps.has D kl = true → Maps.has D kl = true) := fun _ h => h
  go_frame
  generalize Maps.size D = c0 at *
  generalize Maps.has D = l0 at *
  have OW := O0.out w
  go_loopw [3] (fun v wr => ∃ (left : Lit → Bool) (cnt : Nat) (M : List En), M.length + cnt ≤ N ∧ Hid (wr.ranges Try.prog 63 enElem bm w.heap.size N D left cnt) ∧ Hid (CameE L M left) ∧ Hid (∀ kl, left kl = true → l0 kl = true) ∧ Hid (wr.ownsRow (w.heap.size + 1) 41 3 v M.length (enCells M)) ∧ Hid (Below w.heap.size w wr)) (fun _ wr => wr.rangeLeft bm w.heap.size)
  case atStart => exact ⟨l0, c0, [], by simpa using hsz, R0, H0, HL0, O0.out _, B0⟩
  case round =>
    obtain ⟨left, cnt, M, hc, HR, HM, HL, HO, HB⟩ := hrel
    have hws : w.heap.size ≤ wr.heap.size := HB.out.size
    have hrl := HR.out.left_eq
    go_wp2_with (first | (at_next; refine wpList_next_ranges _ rfl _ rfl 63 placeKeyed enElem (fun x : ByteArray × ByteArray => .agg #[.string x.1, .string x.2]) enV (fun key kl h => keyOf_place_inv h) (fun v y h => by obtain ⟨e, h1, h2⟩ := enElem_inv h; exact ⟨e, h1⟩) bm w.heap.size N D left cnt rfl HR.out ?_ ?_) | go_in)
    · intro hc0 hl0
      have HE : Hid (∀ M' : List En, M'.Perm M → (M'.Pairwise fun a b => enLess b a = false) → M' = R) := HF.out M left HM.out hl0
      clear HF HM HL HR hl0 hc0
      go_wp2_with fail
      refine (sortE_any M _ _ _ HO.out (by omega)).mono ?_
      rintro e w1 ⟨rfl, M', hp, hso, hs1, hb1⟩
      obtain rfl : M' = R := HE.out M' hp hso
      have S1 : Hid (SliceE w1 w.heap.size _ M') := hs1.mono (Nat.le_succ _)
      have B1 : Hid (Below w.heap.size w w1) := HB.out.trans ((hb1.mono (Nat.le_succ _)))
      clear hs1 hb1 hp hso
      go_wp2
      go_ret
      exact ⟨_, rfl, S1.out, B1.out⟩
    · intro ka kb c kl yd yp w1 cnt1 hkey hlk hy hat hrg1 hlt1 hg1 hs1 hen
      obtain ⟨rfl, rfl⟩ : yd = .held c ∧ yp = [] := by
        have := Option.some.inj ((enElem_mk c).symm.trans hy)
        exact ⟨(congrArg Prod.fst this).symm, (congrArg Prod.snd this).symm⟩
      obtain ⟨hcL, rfl⟩ := HD.out kl c (HL.out kl hlk) hat
      have KC1 : Hid (∀ W, Calls Try.prog 45 #[.agg #[.string c.ke, .string c.na, .string c.va]] W fun e w' => e = .returned (.agg #[.string c.ke, .string c.na, .string c.va]) ∧ Below W.heap.size W w') := KC.out c hcL
      have M1 : Hid (CameE L (M ++ [c]) (fun z => left z && !z.sameKey (keyE c))) := HN.out M left c HM.out hcL hlk
      have L1 : Hid (∀ kl, (left kl && !kl.sameKey (keyE c)) = true → l0 kl = true) := fun kl h => HL.out kl (by rw [Bool.and_eq_true] at h; exact h.1)
      have B1 : Hid (Below w.heap.size w w1) := HB.out.grown hg1 hws (fun j hj => by have := Option.some.inj hj; omega)
      have O1 : Hid (w1.ownsRow (w.heap.size + 1) 41 3 _ M.length (enCells M)) := ownE_keep HO.out hg1 (fun g hg e => by have := own_base HO.out g hg; have := Option.some.inj e; omega)
      have R1 : Hid (w1.ranges Try.prog 63 enElem bm w.heap.size N D (fun z => left z && !z.sameKey (keyE c)) cnt1) := hrg1
      have hen1 : (Instr.entry (.pointer (some ⟨w.heap.size, 0, none⟩))).run Try.prog w1 = .ok (.tuple #[.agg #[.string ka, .string kb], .agg #[.string c.ke, .string c.na, .string c.va]]) w1 := hen
      have HEC : Hid (∀ v' (w' : World), w'.ownsRow (w.heap.size + 1) 41 3 v' (M.length + 1) (enCells M ++ enVals c) → w'.ownsRow (w.heap.size + 1) 41 3 v' (M ++ [c]).length (enCells (M ++ [c]))) := fun v' w' h => by rw [← enCells_snoc, List.length_append]; exact h
      clear hen hrg1 hat hkey hlk hy KC HN HD HF HL HM HR HO H0 HL0 R0
      generalize hkc : keyE c = kc at *
      clear hkc
      obtain ⟨ke, na, va⟩ := c
      dsimp only at *
      have hw1 : w.heap.size ≤ w1.heap.size := B1.out.size
      obtain ⟨W0, hW⟩ : ∃ W0, W0 = w1.alloc (.cells #[.string ke, .string na, .string va] 41) := ⟨_, rfl⟩
      have hW0 : Hid (W0 = w1.alloc (.cells #[.string ke, .string na, .string va] 41)) := hW
      have HB0 : Hid (Below w1.heap.size w1 W0) := by show Below _ _ _; rw [hW]; exact (Below.refl _ _).alloc (Nat.le_refl _) _
      have n0 : W0.cell? ⟨wr.heap.size, 0, none⟩ = some (.string ke) := by rw [hW, ← hs1]; simp
      have n1 : W0.cell? ⟨wr.heap.size, 1, none⟩ = some (.string na) := by rw [hW, ← hs1]; simp
      have n2 : W0.cell? ⟨wr.heap.size, 2, none⟩ = some (.string va) := by rw [hW, ← hs1]; simp
      clear hW
      have hr1 : Hid (W0.ranges Try.prog 63 enElem bm w.heap.size N D (fun z => left z && !z.sameKey kc) cnt1) := by
        show World.ranges _ _ _ _ _ _ _ _ _ _
        rw [hW0.out]; exact R1.out.alloc _
      have ho1 : Hid (W0.ownsRow (w.heap.size + 1) 41 3 _ M.length (enCells M)) := ownR_below O1.out HB0.out
      have hb1 : Hid (Below w.heap.size w W0) := B1.out.trans (HB0.out.mono hw1)
      go_upto_region 5 with fail
      rw [← hW0.out]
      clear hW0 R1 O1 B1 hen1
      go_wp2_with fail
      refine (KC1.out _).mono ?_
      rintro e w2 ⟨rfl, hb2⟩
      have hw2 : w.heap.size ≤ w2.heap.size := Nat.le_trans hb1.out.size hb2.size
      have R2 : Hid (w2.ranges Try.prog 63 enElem bm w.heap.size N D (fun z => left z && !z.sameKey kc) cnt1) := hr1.out.kept (row := none) ⟨hb2.os, hb2.tape, hb2.output, hb2.size, fun i hi _ => hb2.block i hi⟩ (by simp) (by simp)
      have O2 : Hid (w2.ownsRow (w.heap.size + 1) 41 3 _ M.length (enCells M)) := ownR_below ho1.out hb2
      have B2 : Hid (Below w.heap.size w w2) := hb1.out.trans (hb2.mono hb1.out.size)
      clear hb2 KC1 HB0 ho1 hb1 hr1 n0 n1 n2
      go_wp2_with (at_builtin; go_must (refine wpList_append_own _ rfl _ _ 25 rfl (w.heap.size + 1) 41 i0 (.agg #[.string ⟨#[]⟩, .string ⟨#[]⟩, .string ⟨#[]⟩]) 3 48 Try.underlying25 hi hy0 hy1 hy2 rfl (by decide) _ _ _ rfl (O2.out.alloc _) ⟨w2.heap.size, 0, none⟩ 1 1 (enVals ⟨ke, na, va⟩) rfl rfl (cell_En _ ⟨ke, na, va⟩ _) (one_En ⟨ke, na, va⟩) (by unfold maxLen; omega) (by omega) (by simp; omega) ?_))
      intro v1 w3 ho3 hg3 hn3
      have R3 : Hid (w3.ranges Try.prog 63 enElem bm w.heap.size N D (fun z => left z && !z.sameKey kc) cnt1) := (R2.out.alloc _).kept hg3 (fun e => by have := own_base O2.out _ e.symm; omega) (fun e => by have := own_base O2.out _ e.symm; omega)
      have B3 : Hid (Below w.heap.size w w3) := (B2.out.alloc B2.out.size _).grown hg3 (Nat.le_trans B2.out.size (by simp)) (fun j hj => by have := own_base O2.out j hj; omega)
      have O3 := HEC.out _ _ ho3
      have O4 : Hid (w3.ownsRow (w.heap.size + 1) 41 3 v1 (M ++ [(⟨ke, na, va⟩ : En)]).length (enCells (M ++ [(⟨ke, na, va⟩ : En)]))) := O3
      have hl3 : (M ++ [(⟨ke, na, va⟩ : En)]).length + cnt1 ≤ N := by rw [List.length_append]; show M.length + 1 + cnt1 ≤ N; omega
      have hrl3 := R3.out.left_eq
      clear ho3 hg3 hn3 HEC R2 O2 B2 O3
      go_wp2
      go_roundw
      case rel => exact ⟨_, cnt1, _, hl3, R3, M1, L1, O4, B3⟩
      case measure => rw [hrl3, hrl]; omega
end Go.Proofs.Ytimmoclemcnhnaa
