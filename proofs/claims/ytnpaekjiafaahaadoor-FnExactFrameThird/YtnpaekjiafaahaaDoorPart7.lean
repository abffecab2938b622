/- 9 of this claim's texts, one behind the other. -/
import Derived.Test.YtnpaekjiafaahaaDoorPart6
import Derived.Test.YtnpaekjiafaahaaDoorPart2
import Derived.Test.YtnpaekjiafaahaaDoorPart3
import Derived.Test.YtnpaekjiafaahaaDoorPart5
import Derived.Test.YtnpaekjiafaahaaDoorPart4
import Derived.ProofKit
import Derived.OpenShut
import Derived.Deep.Strs
import Derived.Test.YtnpaekjiafaahaaDoorPart1
import Derived.Handed
import Derived.Lay
import Derived.MakeChecks
import Derived.Lib.LaidTab
import Derived.Stop.LaidErr
/- The walk of the program's topOf over the iterator. Written by impltop.py. -/
namespace Go.Proofs.YtnpaekjiafaahaaDoor
open Go.RowKit Go.Maps Go.Shelf
attribute [local go_sem] Oper.semAt_some

theorem BoxV.kept {W W' : World} {b : Nat} {vs : List Value} {row : Option Nat} (h : BoxV W b vs) (hg : W.grownBy W' row) (hrow : ∀ r, row = some r → ∃ o : Obj, W.heap[r]? = some o ∧ o.isCells = false) : BoxV W' b vs :=
  ⟨Nat.lt_of_lt_of_le h.1 hg.size, fun _ _ e => ⟨cell_kept (h.at e) hg hrow, (frozen_kept (h.at e) hg hrow).trans (h.free e)⟩⟩
/-- the iterator's contract, as the loop's law wants it -/
theorem outward_stops (n : Nat) (hn : 1 ≤ n) (bt bi bm : Nat) (row : Option Nat) (L : List Fr) (hL : framesB L = true) (id : Int) (i1 : -9223372036854775808 ≤ id) (i2 : id ≤ 9223372036854775807) (w : World)
    (ht : w.cell? ⟨bt, 0, none⟩ = some (.map (some bm))) (hi : w.cell? ⟨bi, 0, none⟩ = some (.int .i64 id)) (hm : TreeIs w bm 10 L) (hbt : bt < w.heap.size) (hbi : bi < w.heap.size) (r1 : some bm ≠ row) (r2 : some bt ≠ row) (hrow : ∀ r, row = some r → r < w.heap.size) :
    SeqStopsK Fence.wide n Tryd.prog 90 #[.pointer (some ⟨bt, 0, none⟩), .pointer (some ⟨bi, 0, none⟩)] (fun x : Fr => #[frV x]) (KpF row w.heap.size) (fun ys => ys = wayF L id) (fun pre => pre <+: wayF L id) 11 w :=
  fun l J Jx W hW hJ _ hY h0 => outward1_in n hn l bt bi bm w.heap.size row L hL id i1 i2 J Jx W hJ (fun pre x W1 a b _ => hY pre x W1 a b) ((hW.cell (p := ⟨bt, 0, none⟩) hbt).trans ht) ((hW.cell (p := ⟨bi, 0, none⟩) hbi).trans hi) (hm.of_block (hW.block bm hm.lt)) hm.lt hbt r1 r2 hW.size hrow h0
theorem BoxV.set_other {w : World} {b g o : Nat} {vs : List Value} {v : Value} (h : BoxV w b vs) (hne : g ≠ b) : BoxV (w.setCell ⟨g, o, none⟩ v) b vs :=
  h.of_block (Below.heap_setCell _ _ _ _ (fun e => hne (by first | exact e | exact e.symm))) (by simp [World.setCell])
theorem BoxV.set {w : World} {b : Nat} {vs : List Value} (h : BoxV w b vs) (i : Nat) (hi : i < vs.length) (v : Value) : BoxV (w.setCell ⟨b, i, none⟩ v) b (vs.set i v) := by
  refine ⟨by simpa [World.setCell] using h.1, fun j u e => ?_⟩
  have hf : ∃ u', vs[j]? = some u' := by
    by_cases hj : j = i
    · subst hj; exact ⟨_, List.getElem?_eq_getElem hi⟩
    · rw [List.getElem?_set_ne (fun e' => hj e'.symm)] at e; exact ⟨u, e⟩
  obtain ⟨u', hu'⟩ := hf
  refine ⟨?_, (World.frozen?_setCell _ _ _ _).trans (h.free hu')⟩
  by_cases hj : j = i
  · subst hj
    rw [List.getElem?_set_self hi] at e
    obtain rfl := Option.some.inj e
    exact World.cell?_setCell_same _ _ _ (h.at hu')
  · rw [List.getElem?_set_ne (fun e' => hj e'.symm)] at e
    rw [World.cell?_setCell_other _ _ _ _ (fun e' => hj (by injection e' with _ e'; exact e'.symm))]
    exact h.at e
theorem KpF.set {b n₁ o : Nat} {A B : World} {v : Value} (h : KpF (some b) n₁ A B) : KpF (some b) n₁ A (B.setCell ⟨b, o, none⟩ v) :=
  ⟨by simpa [World.setCell] using h.1, fun k q hk hA hor => by
    have := h.2 k q hk hA hor
    rw [Below.heap_setCell _ _ _ _ (fun e => hk (by rw [show k = b from by first | exact e | exact e.symm]))]
    exact this⟩
/-- the same for rounds that are told that the url is right -/
theorem outward_stopsR (n : Nat) (hn : 1 ≤ n) (bt bi bm : Nat) (row : Option Nat) (L : List Fr) (hL : framesB L = true) (id : Int) (i1 : -9223372036854775808 ≤ id) (i2 : id ≤ 9223372036854775807) (w : World)
    (ht : w.cell? ⟨bt, 0, none⟩ = some (.map (some bm))) (hi : w.cell? ⟨bi, 0, none⟩ = some (.int .i64 id)) (hm : TreeIs w bm 10 L) (hbt : bt < w.heap.size) (hbi : bi < w.heap.size) (r1 : some bm ≠ row) (r2 : some bt ≠ row) (hrow : ∀ r, row = some r → r < w.heap.size) :
    SeqStopsK Fence.wide n Tryd.prog 90 #[.pointer (some ⟨bt, 0, none⟩), .pointer (some ⟨bi, 0, none⟩)] (fun x : { x : Fr // uF x = true } => #[frV x.1]) (KpF row w.heap.size) (fun ys => ys.map Subtype.val = wayF L id) (fun pre => pre.map Subtype.val <+: wayF L id) 11 w :=
  fun l J Jx W hW hJ _ hY h0 => by
    refine (outward1_in n hn l bt bi bm w.heap.size row L hL id i1 i2 (fun ys W => ∃ zs : List { x : Fr // uF x = true }, zs.map Subtype.val = ys ∧ J zs W) (fun ys W => ∃ zs : List { x : Fr // uF x = true }, zs.map Subtype.val = ys ∧ Jx zs W) W
      (fun s X Y r h hg hr => by obtain ⟨zs, e, hj⟩ := h; exact ⟨zs, e, hJ zs X Y r hj hg hr⟩)
      (fun pre x W1 h hlen hu => by
        obtain ⟨zs, rfl, hj⟩ := h
        refine (hY zs ⟨x, hu⟩ W1 hj (by simpa using hlen)).mono ?_
        rintro e W' (⟨he, h1, h2⟩ | ⟨he, h1⟩)
        · exact .inl ⟨he, ⟨zs ++ [⟨x, hu⟩], by simp, h1⟩, h2⟩
        · exact .inr ⟨he, ⟨zs ++ [⟨x, hu⟩], by simp, h1⟩⟩)
      ((hW.cell (p := ⟨bt, 0, none⟩) hbt).trans ht) ((hW.cell (p := ⟨bi, 0, none⟩) hbi).trans hi) (hm.of_block (hW.block bm hm.lt)) hm.lt hbt r1 r2 hW.size hrow ⟨[], rfl, h0⟩).mono ?_
    rintro e W' ⟨he, ⟨ys, rfl, zs, hz, hj⟩ | ⟨pre, hp, zs, rfl, hj⟩⟩
    · exact ⟨he, .inl ⟨zs, hz, hj⟩⟩
    · exact ⟨he, .inr ⟨zs, hp, hj⟩⟩
theorem boxed9_one (w : World) (v : Value) (t : TypeId) : (w.alloc (.cells #[v] t)).cell? ⟨w.heap.size, 0, none⟩ = some v := by simp
set_option maxRecDepth 100000 in
set_option maxHeartbeats 8000000 in
theorem topOf_any (v : Value) (L : List Fr) (B : Nat) (id : Int) (w : World) (hs : SliceF w B v L) (hL : framesB L = true) (i1 : -9223372036854775808 ≤ id) (i2 : id ≤ 9223372036854775807) :
    Calls Tryd.prog 65 #[v, .int .i64 id] w fun e w' => e = .returned (frV ((wayF L id).getLastD frNone)) ∧ Below w.heap.size w w' := by
  have HT0 : Hid (∀ W, Below w.heap.size w W → Calls Tryd.prog 70 #[v] W fun e w' => ∃ bm, e = .returned (.map (some bm)) ∧ W.heap.size ≤ bm ∧ TreeIs w' bm 10 L ∧ Below W.heap.size W w') := fun W hb => treeOf_any v L B W (hs.below hb) hL
  have HX0 : Hid (BoxV (w.alloc (.cells #[.int .i64 0, .int .i64 0, .string ⟨#[]⟩, .string ⟨#[]⟩, .int .i64 0, .string ⟨#[]⟩, .bool false, .bool false, .int .i64 0] 60)) w.heap.size [.int .i64 0, .int .i64 0, .string ⟨#[]⟩, .string ⟨#[]⟩, .int .i64 0, .string ⟨#[]⟩, .bool false, .bool false, .int .i64 0]) := boxV_new w [.int .i64 0, .int .i64 0, .string ⟨#[]⟩, .string ⟨#[]⟩, .int .i64 0, .string ⟨#[]⟩, .bool false, .bool false, .int .i64 0] 60
  have HY0 : Hid (BoxV ((w.alloc (.cells #[.int .i64 0, .int .i64 0, .string ⟨#[]⟩, .string ⟨#[]⟩, .int .i64 0, .string ⟨#[]⟩, .bool false, .bool false, .int .i64 0] 60)).alloc (.cells #[.int .i64 0, .int .i64 0, .string ⟨#[]⟩, .string ⟨#[]⟩, .int .i64 0, .string ⟨#[]⟩, .bool false, .bool false, .int .i64 0] 60)) (w.heap.size + 1) [.int .i64 0, .int .i64 0, .string ⟨#[]⟩, .string ⟨#[]⟩, .int .i64 0, .string ⟨#[]⟩, .bool false, .bool false, .int .i64 0]) := by
    have h := boxV_new (w.alloc (.cells #[.int .i64 0, .int .i64 0, .string ⟨#[]⟩, .string ⟨#[]⟩, .int .i64 0, .string ⟨#[]⟩, .bool false, .bool false, .int .i64 0] 60)) [.int .i64 0, .int .i64 0, .string ⟨#[]⟩, .string ⟨#[]⟩, .int .i64 0, .string ⟨#[]⟩, .bool false, .bool false, .int .i64 0] 60
    rw [World.size_alloc] at h
    exact h
  have HB0 : Hid (Below w.heap.size w ((w.alloc (.cells #[.int .i64 0, .int .i64 0, .string ⟨#[]⟩, .string ⟨#[]⟩, .int .i64 0, .string ⟨#[]⟩, .bool false, .bool false, .int .i64 0] 60)).alloc (.cells #[.int .i64 0, .int .i64 0, .string ⟨#[]⟩, .string ⟨#[]⟩, .int .i64 0, .string ⟨#[]⟩, .bool false, .bool false, .int .i64 0] 60))) := ((Below.refl _ _).alloc (Nat.le_refl _) _).alloc (by simp) _
  refine (callsIn_wide (n := 6)).1 ?_
  refine callsIn_of_wp_marks Tryd.func65 rfl trivial ?_ rfl
  simp only [Tryd.ntmps65, List.size_toArray, List.length_cons, List.length_nil, Nat.reduceAdd, Nat.reduceSub, Array.replicate_succ, Array.replicate_zero, List.push_toArray, List.append_toArray, List.nil_append, List.cons_append]
  gi_wp2_with fail
  refine ⟨trivial, ?_⟩
  refine (callsIn_wide.2 (HT0.out _ HB0.out)).mono ?_
  rintro e w1 ⟨bm, rfl, hbm, hm1, hb1⟩
  have HX1 : Hid (BoxV w1 w.heap.size [.int .i64 0, .int .i64 0, .string ⟨#[]⟩, .string ⟨#[]⟩, .int .i64 0, .string ⟨#[]⟩, .bool false, .bool false, .int .i64 0]) := (HX0.out.alloc _).below hb1
  have HY1 : Hid (BoxV w1 (w.heap.size + 1) [.int .i64 0, .int .i64 0, .string ⟨#[]⟩, .string ⟨#[]⟩, .int .i64 0, .string ⟨#[]⟩, .bool false, .bool false, .int .i64 0]) := HY0.out.below hb1
  have HB1 : Hid (Below w.heap.size w w1) := HB0.out.trans (hb1.mono HB0.out.size)
  have HM1 : Hid (TreeIs w1 bm 10 L) := hm1
  have hbm2 : w.heap.size + 2 ≤ bm := by simpa using hbm
  clear hb1 hm1 HX0 HY0 HB0 hbm HT0
  gi_wp2_with fail
  refine ⟨trivial, ?_⟩
  refine (callsIn_wide.2 (outward_any bm id _)).mono ?_
  rintro e w2 ⟨rfl, rfl⟩
  gi_wp2_with fail
  obtain ⟨W2, hW2⟩ : ∃ W2, W2 = (w1.alloc (.cells #[.map (some bm)] 90)).alloc (.cells #[.int .i64 id] 2) := ⟨_, rfl⟩
  rw [← hW2]
  have hb2 : Below w1.heap.size w1 W2 := by rw [hW2]; exact ((Below.refl _ _).alloc (Nat.le_refl _) _).alloc (by simp) _
  have z2 : W2.heap.size = w1.heap.size + 1 + 1 := by rw [hW2]; simp
  have ht2 : W2.cell? ⟨w1.heap.size, 0, none⟩ = some (.map (some bm)) := by rw [hW2]; exact (cell_under9 _ _ _ _ (by simp)).trans (by simp)
  have hi2 : W2.cell? ⟨w1.heap.size + 1, 0, none⟩ = some (.int .i64 id) := by rw [hW2]; exact (World.cell?_alloc_at _ _ _ _ (by simp)).trans rfl
  have hX2 : BoxV W2 w.heap.size [.int .i64 0, .int .i64 0, .string ⟨#[]⟩, .string ⟨#[]⟩, .int .i64 0, .string ⟨#[]⟩, .bool false, .bool false, .int .i64 0] := HX1.out.below hb2
  have hY2 : BoxV W2 (w.heap.size + 1) [.int .i64 0, .int .i64 0, .string ⟨#[]⟩, .string ⟨#[]⟩, .int .i64 0, .string ⟨#[]⟩, .bool false, .bool false, .int .i64 0] := HY1.out.below hb2
  have hm2 : TreeIs W2 bm 10 L := HM1.out.below hb2
  have hB2 : Below w.heap.size w W2 := HB1.out.trans (hb2.mono HB1.out.size)
  have zw : w.heap.size + 1 < w1.heap.size := HY1.out.1
  have zb : bm < w1.heap.size := HM1.out.lt
  clear hW2 hb2 HX1 HY1 HM1 HB1
  generalize hrb : w.heap.size = rb at *
  generalize htb : rb + 1 = tb at *
  generalize hbt : w1.heap.size = bt at *
  generalize hbi : bt + 1 = bi at *
  refine wpIn_rangeFunc_ownH rfl (by omega) (gf := 90) (lb := #[.pointer (some ⟨bt, 0, none⟩), .pointer (some ⟨bi, 0, none⟩)]) rfl trivial (enters_of Tryd.func90 (by kernel_rfl) rfl)
    (outward_stops (6 - 1) (by omega) bt bi bm (some tb) L hL id i1 i2 W2 ht2 hi2 hm2 (by omega) (by omega) (fun e => by have := Option.some.inj e; omega) (fun e => by have := Option.some.inj e; omega) (fun r e => by have := Option.some.inj e; omega)) (fun h k => KpF.trans h k) (KpF.put (Nat.le_refl _)) (Below.refl _ _) (fun _ => rfl)
    (fun pre W => ((BoxV W rb [.int .i64 0, .int .i64 0, .string ⟨#[]⟩, .string ⟨#[]⟩, .int .i64 0, .string ⟨#[]⟩, .bool false, .bool false, .int .i64 0] ∧ BoxV W tb (frVals (pre.getLastD frNone))) ∧ W2.heap.size ≤ W.heap.size) ∧ Below rb w W)
    (fun _ _ _ => False)
    (OwnFrom.and (Own.from (fun s X Y row hs hg hr => ⟨⟨hs.1.1.kept hg hr, hs.1.2.kept hg hr⟩, Nat.le_trans hs.2 hg.size⟩) _) (ownFrom_below (Nat.le_of_eq hrb.symm) (by omega)))
    (fun _ _ _ _ _ hs _ _ => hs)
    ⟨⟨⟨hX2, hY2⟩, Nat.le_refl _⟩, hB2⟩
    (fun x a' W => ∃ Bx, W2.heap.size ≤ Bx ∧ BoxV W Bx (frVals x) ∧ a' = { tmps := #[v, .int .i64 id, undef, undef, .pointer (some ⟨rb, 0, none⟩), .pointer (some ⟨tb, 0, none⟩), .pointer (some ⟨Bx, 0, none⟩), v, .map (some bm), .int .i64 id, .func (.func 90) #[] #[.pointer (some ⟨bt, 0, none⟩), .pointer (some ⟨bi, 0, none⟩)], frV x, undef, undef], defers := [] })
    (fun x a' s X Y row hs hg hr => by obtain ⟨Bx, h1, h2, h3⟩ := hs; exact ⟨Bx, h1, h2.kept hg (fun r e => (hr r e).2), h3⟩) ?assign ?body ?done ?stop
  case assign =>
    rintro l pre x W K ⟨⟨⟨h1, h2⟩, hz⟩, h3⟩ hK
    have hx := boxV_new W (frVals x) 60
    unfold frVals frV at *
    dsimp only at *
    gi_wp2
    exact hK _ _ ((KeepsOthers.alloc _ _).from _) (KpF.of_below ((Below.refl _ _).alloc (Nat.le_refl _) _)) ⟨⟨⟨h1.alloc _, h2.alloc _⟩, by simp; omega⟩, h3.alloc (Nat.le_of_lt h1.1) _⟩ ⟨W.heap.size, hz, hx, rfl⟩
  case body =>
    rintro l pre x a' W hl ⟨r, hr⟩ ⟨⟨⟨h1, h2⟩, hz⟩, h3⟩ ⟨Bx, hBx, bX, rfl⟩ hlt
    have HE : Hid ((pre ++ [x]).getLastD frNone = x) := by show _ = _; simp
    have H1 : Hid (BoxV W rb [.int .i64 0, .int .i64 0, .string ⟨#[]⟩, .string ⟨#[]⟩, .int .i64 0, .string ⟨#[]⟩, .bool false, .bool false, .int .i64 0]) := h1
    have H2 : Hid (BoxV W tb (frVals (pre.getLastD frNone))) := h2
    have H3 : Hid (Below rb w W) := h3
    have HNE : Hid (tb ≠ rb) := by show tb ≠ rb; omega
    clear h1 h2 h3 hr hlt
    generalize pre.getLastD frNone = p at *
    obtain ⟨pid, ppa, psc, pho, ppo, ppt, psb, pfl, ptc⟩ := p
    obtain ⟨xid, xpa, xsc, xho, xpo, xpt, xsb, xfl, xtc⟩ := x
    unfold frVals at *
    dsimp only at *
    have x0 : W.cell? ⟨Bx, 0, none⟩ = some (.int .i64 xid) := bX.at (i := 0) rfl
    have x1 : W.cell? ⟨Bx, 1, none⟩ = some (.int .i64 xpa) := bX.at (i := 1) rfl
    have x2 : W.cell? ⟨Bx, 2, none⟩ = some (.string xsc) := bX.at (i := 2) rfl
    have x3 : W.cell? ⟨Bx, 3, none⟩ = some (.string xho) := bX.at (i := 3) rfl
    have x4 : W.cell? ⟨Bx, 4, none⟩ = some (.int .i64 xpo) := bX.at (i := 4) rfl
    have x5 : W.cell? ⟨Bx, 5, none⟩ = some (.string xpt) := bX.at (i := 5) rfl
    have x6 : W.cell? ⟨Bx, 6, none⟩ = some (.bool xsb) := bX.at (i := 6) rfl
    have x7 : W.cell? ⟨Bx, 7, none⟩ = some (.bool xfl) := bX.at (i := 7) rfl
    have x8 : W.cell? ⟨Bx, 8, none⟩ = some (.int .i64 xtc) := bX.at (i := 8) rfl
    have y0 : W.cell? ⟨tb, 0, none⟩ = some (.int .i64 pid) := H2.out.at (i := 0) rfl
    have yf0 : W.frozen? ⟨tb, 0, none⟩ = false := H2.out.free (i := 0) rfl
    have y1 : W.cell? ⟨tb, 1, none⟩ = some (.int .i64 ppa) := H2.out.at (i := 1) rfl
    have yf1 : W.frozen? ⟨tb, 1, none⟩ = false := H2.out.free (i := 1) rfl
    have y2 : W.cell? ⟨tb, 2, none⟩ = some (.string psc) := H2.out.at (i := 2) rfl
    have yf2 : W.frozen? ⟨tb, 2, none⟩ = false := H2.out.free (i := 2) rfl
    have y3 : W.cell? ⟨tb, 3, none⟩ = some (.string pho) := H2.out.at (i := 3) rfl
    have yf3 : W.frozen? ⟨tb, 3, none⟩ = false := H2.out.free (i := 3) rfl
    have y4 : W.cell? ⟨tb, 4, none⟩ = some (.int .i64 ppo) := H2.out.at (i := 4) rfl
    have yf4 : W.frozen? ⟨tb, 4, none⟩ = false := H2.out.free (i := 4) rfl
    have y5 : W.cell? ⟨tb, 5, none⟩ = some (.string ppt) := H2.out.at (i := 5) rfl
    have yf5 : W.frozen? ⟨tb, 5, none⟩ = false := H2.out.free (i := 5) rfl
    have y6 : W.cell? ⟨tb, 6, none⟩ = some (.bool psb) := H2.out.at (i := 6) rfl
    have yf6 : W.frozen? ⟨tb, 6, none⟩ = false := H2.out.free (i := 6) rfl
    have y7 : W.cell? ⟨tb, 7, none⟩ = some (.bool pfl) := H2.out.at (i := 7) rfl
    have yf7 : W.frozen? ⟨tb, 7, none⟩ = false := H2.out.free (i := 7) rfl
    have y8 : W.cell? ⟨tb, 8, none⟩ = some (.int .i64 ptc) := H2.out.at (i := 8) rfl
    have yf8 : W.frozen? ⟨tb, 8, none⟩ = false := H2.out.free (i := 8) rfl
    clear bX
    gi_wp2
    refine ⟨(KeepsOthers.from (KeepsOthers.trans (KeepsOthers.trans (KeepsOthers.trans (KeepsOthers.trans (KeepsOthers.trans (KeepsOthers.trans (KeepsOthers.trans (KeepsOthers.trans (KeepsOthers.trans (KeepsOthers.refl _) (KeepsOthers.setCell _ _ _)) (KeepsOthers.setCell _ _ _)) (KeepsOthers.setCell _ _ _)) (KeepsOthers.setCell _ _ _)) (KeepsOthers.setCell _ _ _)) (KeepsOthers.setCell _ _ _)) (KeepsOthers.setCell _ _ _)) (KeepsOthers.setCell _ _ _)) (KeepsOthers.setCell _ _ _)) _), (KpF.set (KpF.set (KpF.set (KpF.set (KpF.set (KpF.set (KpF.set (KpF.set (KpF.set (KpF.refl _ _ _)))))))))), ⟨⟨⟨(BoxV.set_other (BoxV.set_other (BoxV.set_other (BoxV.set_other (BoxV.set_other (BoxV.set_other (BoxV.set_other (BoxV.set_other (BoxV.set_other H1.out HNE.out) HNE.out) HNE.out) HNE.out) HNE.out) HNE.out) HNE.out) HNE.out) HNE.out), ?_⟩, by simpa using hz⟩, (Below.setCell (Below.setCell (Below.setCell (Below.setCell (Below.setCell (Below.setCell (Below.setCell (Below.setCell (Below.setCell H3.out (show rb ≤ tb from by omega) _) (show rb ≤ tb from by omega) _) (show rb ≤ tb from by omega) _) (show rb ≤ tb from by omega) _) (show rb ≤ tb from by omega) _) (show rb ≤ tb from by omega) _) (show rb ≤ tb from by omega) _) (show rb ≤ tb from by omega) _) (show rb ≤ tb from by omega) _)⟩⟩
    rw [HE.out]
    exact (BoxV.set (BoxV.set (BoxV.set (BoxV.set (BoxV.set (BoxV.set (BoxV.set (BoxV.set (BoxV.set H2.out 0 (by simp) _) 1 (by simp) _) 2 (by simp) _) 3 (by simp) _) 4 (by simp) _) 5 (by simp) _) 6 (by simp) _) 7 (by simp) _) 8 (by simp) _)
  case done =>
    rintro D ys W hD rfl ⟨⟨⟨h1, h2⟩, hz⟩, h3⟩ hK
    have HK : Hid (W.heap[D]? = some (.deferred (some []))) := hK
    have H1 : Hid (BoxV W rb [.int .i64 0, .int .i64 0, .string ⟨#[]⟩, .string ⟨#[]⟩, .int .i64 0, .string ⟨#[]⟩, .bool false, .bool false, .int .i64 0]) := h1
    have H3 : Hid (Below rb w W) := h3
    clear hK h3
    generalize hp : (wayF L id).getLastD frNone = p at *
    obtain ⟨pid, ppa, psc, pho, ppo, ppt, psb, pfl, ptc⟩ := p
    unfold frVals at *
    dsimp only at *
    have y0 : W.cell? ⟨tb, 0, none⟩ = some (.int .i64 pid) := h2.at (i := 0) rfl
    have y1 : W.cell? ⟨tb, 1, none⟩ = some (.int .i64 ppa) := h2.at (i := 1) rfl
    have y2 : W.cell? ⟨tb, 2, none⟩ = some (.string psc) := h2.at (i := 2) rfl
    have y3 : W.cell? ⟨tb, 3, none⟩ = some (.string pho) := h2.at (i := 3) rfl
    have y4 : W.cell? ⟨tb, 4, none⟩ = some (.int .i64 ppo) := h2.at (i := 4) rfl
    have y5 : W.cell? ⟨tb, 5, none⟩ = some (.string ppt) := h2.at (i := 5) rfl
    have y6 : W.cell? ⟨tb, 6, none⟩ = some (.bool psb) := h2.at (i := 6) rfl
    have y7 : W.cell? ⟨tb, 7, none⟩ = some (.bool pfl) := h2.at (i := 7) rfl
    have y8 : W.cell? ⟨tb, 8, none⟩ = some (.int .i64 ptc) := h2.at (i := 8) rfl
    have z0 : W.cell? ⟨rb, 0, none⟩ = some (.int .i64 0) := H1.out.at (i := 0) rfl
    have zf0 : W.frozen? ⟨rb, 0, none⟩ = false := H1.out.free (i := 0) rfl
    have z1 : W.cell? ⟨rb, 1, none⟩ = some (.int .i64 0) := H1.out.at (i := 1) rfl
    have zf1 : W.frozen? ⟨rb, 1, none⟩ = false := H1.out.free (i := 1) rfl
    have z2 : W.cell? ⟨rb, 2, none⟩ = some (.string ⟨#[]⟩) := H1.out.at (i := 2) rfl
    have zf2 : W.frozen? ⟨rb, 2, none⟩ = false := H1.out.free (i := 2) rfl
    have z3 : W.cell? ⟨rb, 3, none⟩ = some (.string ⟨#[]⟩) := H1.out.at (i := 3) rfl
    have zf3 : W.frozen? ⟨rb, 3, none⟩ = false := H1.out.free (i := 3) rfl
    have z4 : W.cell? ⟨rb, 4, none⟩ = some (.int .i64 0) := H1.out.at (i := 4) rfl
    have zf4 : W.frozen? ⟨rb, 4, none⟩ = false := H1.out.free (i := 4) rfl
    have z5 : W.cell? ⟨rb, 5, none⟩ = some (.string ⟨#[]⟩) := H1.out.at (i := 5) rfl
    have zf5 : W.frozen? ⟨rb, 5, none⟩ = false := H1.out.free (i := 5) rfl
    have z6 : W.cell? ⟨rb, 6, none⟩ = some (.bool false) := H1.out.at (i := 6) rfl
    have zf6 : W.frozen? ⟨rb, 6, none⟩ = false := H1.out.free (i := 6) rfl
    have z7 : W.cell? ⟨rb, 7, none⟩ = some (.bool false) := H1.out.at (i := 7) rfl
    have zf7 : W.frozen? ⟨rb, 7, none⟩ = false := H1.out.free (i := 7) rfl
    have z8 : W.cell? ⟨rb, 8, none⟩ = some (.int .i64 0) := H1.out.at (i := 8) rfl
    have zf8 : W.frozen? ⟨rb, 8, none⟩ = false := H1.out.free (i := 8) rfl
    clear h1 h2
    gi_wp2
    obtain ⟨Wz, hWz⟩ : ∃ Wz, Wz = (((((((((W.setCell ⟨rb, 0, none⟩ (.int .i64 pid)).setCell ⟨rb, 1, none⟩ (.int .i64 ppa)).setCell ⟨rb, 2, none⟩ (.string psc)).setCell ⟨rb, 3, none⟩ (.string pho)).setCell ⟨rb, 4, none⟩ (.int .i64 ppo)).setCell ⟨rb, 5, none⟩ (.string ppt)).setCell ⟨rb, 6, none⟩ (.bool psb)).setCell ⟨rb, 7, none⟩ (.bool pfl)).setCell ⟨rb, 8, none⟩ (.int .i64 ptc)) := ⟨_, rfl⟩
    rw [← hWz]
    have hKz : Wz.heap[D]? = some (.deferred (some [])) := by
      rw [hWz]
      exact ((KeepsOthers.trans (KeepsOthers.trans (KeepsOthers.trans (KeepsOthers.trans (KeepsOthers.trans (KeepsOthers.trans (KeepsOthers.trans (KeepsOthers.trans (KeepsOthers.trans (KeepsOthers.refl _) (KeepsOthers.setCell _ _ _)) (KeepsOthers.setCell _ _ _)) (KeepsOthers.setCell _ _ _)) (KeepsOthers.setCell _ _ _)) (KeepsOthers.setCell _ _ _)) (KeepsOthers.setCell _ _ _)) (KeepsOthers.setCell _ _ _)) (KeepsOthers.setCell _ _ _)) (KeepsOthers.setCell _ _ _))).same D _ HK.out rfl
    have hZ : BoxV Wz rb [.int .i64 pid, .int .i64 ppa, .string psc, .string pho, .int .i64 ppo, .string ppt, .bool psb, .bool pfl, .int .i64 ptc] := by rw [hWz]; exact (BoxV.set (BoxV.set (BoxV.set (BoxV.set (BoxV.set (BoxV.set (BoxV.set (BoxV.set (BoxV.set H1.out 0 (by simp) _) 1 (by simp) _) 2 (by simp) _) 3 (by simp) _) 4 (by simp) _) 5 (by simp) _) 6 (by simp) _) 7 (by simp) _) 8 (by simp) _)
    have hBz : Below rb w Wz := by rw [hWz]; exact (Below.setCell (Below.setCell (Below.setCell (Below.setCell (Below.setCell (Below.setCell (Below.setCell (Below.setCell (Below.setCell H3.out (Nat.le_refl _) _) (Nat.le_refl _) _) (Nat.le_refl _) _) (Nat.le_refl _) _) (Nat.le_refl _) _) (Nat.le_refl _) _) (Nat.le_refl _) _) (Nat.le_refl _) _) (Nat.le_refl _) _)
    clear hWz
    have hQ : BoxV (Wz.putObj D (.deferred none)) rb [.int .i64 pid, .int .i64 ppa, .string psc, .string pho, .int .i64 ppo, .string ppt, .bool psb, .bool pfl, .int .i64 ptc] := hZ.kept (grownBy_putObj' Wz D _) (fun r e => by cases e; exact ⟨_, hKz, rfl⟩)
    refine ⟨by simp, .inl ⟨_, _, rfl, run_takeDeferred hKz, ?_⟩⟩
    have q0 : (Wz.putObj D (.deferred none)).cell? ⟨rb, 0, none⟩ = some (.int .i64 pid) := hQ.at (i := 0) rfl
    have q1 : (Wz.putObj D (.deferred none)).cell? ⟨rb, 1, none⟩ = some (.int .i64 ppa) := hQ.at (i := 1) rfl
    have q2 : (Wz.putObj D (.deferred none)).cell? ⟨rb, 2, none⟩ = some (.string psc) := hQ.at (i := 2) rfl
    have q3 : (Wz.putObj D (.deferred none)).cell? ⟨rb, 3, none⟩ = some (.string pho) := hQ.at (i := 3) rfl
    have q4 : (Wz.putObj D (.deferred none)).cell? ⟨rb, 4, none⟩ = some (.int .i64 ppo) := hQ.at (i := 4) rfl
    have q5 : (Wz.putObj D (.deferred none)).cell? ⟨rb, 5, none⟩ = some (.string ppt) := hQ.at (i := 5) rfl
    have q6 : (Wz.putObj D (.deferred none)).cell? ⟨rb, 6, none⟩ = some (.bool psb) := hQ.at (i := 6) rfl
    have q7 : (Wz.putObj D (.deferred none)).cell? ⟨rb, 7, none⟩ = some (.bool pfl) := hQ.at (i := 7) rfl
    have q8 : (Wz.putObj D (.deferred none)).cell? ⟨rb, 8, none⟩ = some (.int .i64 ptc) := hQ.at (i := 8) rfl
    exact ⟨.agg #[.int .i64 pid, .int .i64 ppa, .string psc, .string pho, .int .i64 ppo, .string ppt, .bool psb, .bool pfl, .int .i64 ptc], by simp [results, Tryd.results65, go_sem, q0, q1, q2, q3, q4, q5, q6, q7, q8], by rw [hp]; rfl, by rw [hrb]; exact hBz.trans (belowK_b (w := W2) (by omega) Wz D _ _ hD hKz rfl rfl)⟩
  case stop =>
    rintro D c pre W _ _ h _
    exact h.elim
end Go.Proofs.YtnpaekjiafaahaaDoor

/- The walks of the specification's OriginText and OriginSame. -/
namespace Go.Proofs.YtnpaekjiafaahaaDoor
open Go.RowKit

theorem placeB_parts {sc ho : ByteArray} {po : Int} (h : placeB sc ho po = true) : sc.size ≤ 5 ∧ ho.size ≤ 100 ∧ 1 ≤ po ∧ po ≤ 65535 := by
  unfold placeB at h
  simp only [Bool.and_eq_true, decide_eq_true_eq] at h
  obtain ⟨⟨h1, h2⟩, h3, h4⟩ := h
  refine ⟨schemeB_size h1, ?_, h3, h4⟩
  by_cases hz : 100 < ho.size
  · rw [hostB_size hz] at h2; cases h2
  · omega

/-- field by field -/
def sameF (sc ho : ByteArray) (po no : Int) (sc2 ho2 : ByteArray) (po2 no2 : Int) : Bool := (sc.toList == sc2.toList) && (ho.toList == ho2.toList) && (po == po2) && (no == no2)
/-- are two right origins the same? -/
def sameO (sc ho : ByteArray) (po no : Int) (sc2 ho2 : ByteArray) (po2 no2 : Int) : Bool := originB sc ho po no && originB sc2 ho2 po2 no2 && sameF sc ho po no sc2 ho2 po2 no2
end Go.Proofs.YtnpaekjiafaahaaDoor

/- The walks of the program's OriginRight, OriginOf, OriginText and OriginSame. -/
namespace Go.Proofs.YtnpaekjiafaahaaDoor
open Go.RowKit

set_option maxRecDepth 10000 in
set_option maxHeartbeats 400000 in
theorem originRight_any (sc ho : ByteArray) (po no : Int) (w : World) (hG : MaxI w) (hh : ho.size ≤ 1048576) :
    Calls Tryd.prog 101 #[originV sc ho po no] w fun e w' => e = .returned (.bool (originB sc ho po no)) ∧ Below w.heap.size w w' := by
  unfold originV
  have HG : Hid (∀ o, MaxI (w.alloc o)) := fun o => hG.on ((Below.refl _ _).alloc (Nat.le_refl _) _)
  clear hG
  by_cases h0 : no = 0
  · have q : (no == 0) = true := by rw [beq_iff_eq]; exact h0
    have H1 := fun W (h : MaxI W) => placeRight_any sc ho po W h hh
    have HP : Hid (originB sc ho po no = placeB sc ho po) := by show _ = _; rw [originB, if_pos h0]
    clear h0
    generalize placeB sc ho po = b at *
    have G1 : Hid (∀ W, MaxI W → Calls Tryd.prog 77 #[.string sc, .string ho, .int .i64 po] W fun e w' => e = .returned (.bool b) ∧ Below W.heap.size W w') := H1
    clear H1
    go_enter Tryd.func101, Tryd.ntmps101
    go_wp2_with fail
    refine (G1.out _ (HG.out _)).mono ?_
    rintro e w1 ⟨rfl, hb⟩
    go_wp2
    go_ret
    exact ⟨ret_bool HP.out.symm, ((Below.refl _ _).alloc (Nat.le_refl _) _).trans (hb.mono (by simp))⟩
  · have q : (no == 0) = false := by rw [beq_eq_false_iff_ne]; exact h0
    have HP : Hid (originB sc ho po no = ((decide (1 ≤ no) && decide (no ≤ 1000000)) && sc.toList.isEmpty && ho.toList.isEmpty && (po == 0))) := by show _ = _; rw [originB, if_neg h0]
    clear h0
    cases q1 : decide (1 ≤ no) with
    | false =>
      go_enter Tryd.func101, Tryd.ntmps101
      go_wp2
      go_ret
      exact ⟨ret_bool (by rw [HP.out, q1]; rfl), (Below.refl _ _).alloc (Nat.le_refl _) _⟩
    | true =>
      cases q2 : decide (no ≤ 1000000) with
      | false =>
        go_enter Tryd.func101, Tryd.ntmps101
        go_wp2
        go_ret
        exact ⟨ret_bool (by rw [HP.out, q1, q2]; rfl), (Below.refl _ _).alloc (Nat.le_refl _) _⟩
      | true =>
        go_enter Tryd.func101, Tryd.ntmps101
        go_wp2
        all_goals
          go_ret
          exact ⟨ret_bool (by rw [HP.out, q1, q2]; simp [*]), (Below.refl _ _).alloc (Nat.le_refl _) _⟩
/-- a url's fields at block g, an empty origin's behind it -/
def OfAt (w : World) (g : Nat) (sc ho : ByteArray) (po : Int) : Prop :=
  g + 1 < w.heap.size ∧ w.cell? ⟨g, 0, none⟩ = some (.string sc) ∧ w.cell? ⟨g, 1, none⟩ = some (.string ho) ∧ w.cell? ⟨g, 2, none⟩ = some (.int .i64 po) ∧ w.cell? ⟨g + 1, 0, none⟩ = some (.string ⟨#[]⟩) ∧ w.cell? ⟨g + 1, 1, none⟩ = some (.string ⟨#[]⟩) ∧ w.cell? ⟨g + 1, 2, none⟩ = some (.int .i64 0) ∧ w.cell? ⟨g + 1, 3, none⟩ = some (.int .i64 0) ∧ w.frozen? ⟨g + 1, 0, none⟩ = false ∧ w.frozen? ⟨g + 1, 1, none⟩ = false ∧ w.frozen? ⟨g + 1, 2, none⟩ = false ∧ w.frozen? ⟨g + 1, 3, none⟩ = false
theorem OfAt.below {w w' : World} {g : Nat} {sc ho : ByteArray} {po : Int} (h : OfAt w g sc ho po) (hb : Below w.heap.size w w') : OfAt w' g sc ho po := by
  obtain ⟨h0, h1, h2, h3, h4, h5, h6, h7, h8, h9, ha, hc⟩ := h
  have hz := hb.size
  obtain ⟨kc, kf⟩ := bcell hb
  refine ⟨by omega, ?_, ?_, ?_, ?_, ?_, ?_, ?_, ?_, ?_, ?_, ?_⟩
  · rw [kc _ _ (by omega)]; exact h1
  · rw [kc _ _ (by omega)]; exact h2
  · rw [kc _ _ (by omega)]; exact h3
  · rw [kc _ _ h0]; exact h4
  · rw [kc _ _ h0]; exact h5
  · rw [kc _ _ h0]; exact h6
  · rw [kc _ _ h0]; exact h7
  · rw [kf _ _ h0]; exact h8
  · rw [kf _ _ h0]; exact h9
  · rw [kf _ _ h0]; exact ha
  · rw [kf _ _ h0]; exact hc
set_option maxRecDepth 10000 in
set_option maxHeartbeats 1000000 in
theorem originOf_any (sc ho pa : ByteArray) (po : Int) (w : World) (hG : MaxI w) (hh : ho.size ≤ 1048576) :
    Calls Tryd.prog 68 #[urlV sc ho pa po] w fun e w' => e = .returned (if urlB sc ho pa po = true then originV sc ho po 0 else originV ⟨#[]⟩ ⟨#[]⟩ 0 0) ∧ Below w.heap.size w w' := by
  have H1 := fun W (h : MaxI W) => urlRight_any sc ho pa po W h hh
  have HG : Hid (∀ o o', MaxI ((w.alloc o).alloc o')) := fun o o' => hG.on (((Below.refl _ _).alloc (Nat.le_refl _) _).alloc (by simp) _)
  clear hG
  unfold urlV at H1 ⊢
  cases hu : urlB sc ho pa po with
  | false =>
    rw [hu] at H1
    rw [if_neg (by simp)]
    have G1 : Hid (∀ W, MaxI W → Calls Tryd.prog 50 #[.agg #[.string sc, .string ho, .int .i64 po, .string pa]] W fun e w' => e = .returned (.bool false) ∧ Below W.heap.size W w') := H1
    clear H1 hu
    go_enter Tryd.func68, Tryd.ntmps68
    go_wp2_with fail
    refine (G1.out _ (HG.out _ _)).mono ?_
    rintro e w1 ⟨rfl, hb⟩
    obtain ⟨hc, hf⟩ := bcell hb
    go_wp2
    refine bodyPost_ret (v := originV ⟨#[]⟩ ⟨#[]⟩ 0 0) (by simp [originV, results, Tryd.results68, go_sem, hc]) rfl ⟨rfl, ?_⟩
    exact Below.setCell (Below.setCell (Below.setCell (Below.setCell ((((Below.refl _ _).alloc (Nat.le_refl _) _).alloc (by simp) _).trans (hb.mono (by simp; omega))) (by simp) _) (by simp) _) (by simp) _) (by simp) _
  | true =>
    obtain ⟨h1, h2, _, _, _⟩ := urlB_parts hu
    have G2 : Hid (∀ W, Calls Tryd.prog 79 #[.string sc, .string ⟨#[]⟩] W fun e w' => e = .returned (.string sc) ∧ Below W.heap.size W w') := fun W => together_empty sc W (by omega)
    have G3 : Hid (∀ W, Calls Tryd.prog 79 #[.string ho, .string ⟨#[]⟩] W fun e w' => e = .returned (.string ho) ∧ Below W.heap.size W w') := fun W => together_empty ho W (by omega)
    rw [hu] at H1
    rw [if_pos rfl]
    have G1 : Hid (∀ W, MaxI W → Calls Tryd.prog 50 #[.agg #[.string sc, .string ho, .int .i64 po, .string pa]] W fun e w' => e = .returned (.bool true) ∧ Below W.heap.size W w') := H1
    clear H1 hu h1 h2
    go_enter Tryd.func68, Tryd.ntmps68
    go_wp2_with fail
    refine (G1.out _ (HG.out _ _)).mono ?_
    rintro e w1 ⟨rfl, hb⟩
    have hz1 : w.heap.size + 1 < w1.heap.size := by have := hb.size; simp at this; omega
    have HB : Hid (Below w.heap.size w w1) := (((Below.refl _ _).alloc (Nat.le_refl _) _).alloc (by simp) _).trans (hb.mono (by simp; omega))
    obtain ⟨hc, hf⟩ := bcell hb
    have c0 : w1.cell? ⟨w.heap.size, 0, none⟩ = some (.string sc) := by rw [hc _ _ (by simp <;> omega), World.cell?_alloc_lt _ _ ⟨w.heap.size, 0, none⟩ (by simp)]; simp
    have c1 : w1.cell? ⟨w.heap.size, 1, none⟩ = some (.string ho) := by rw [hc _ _ (by simp <;> omega), World.cell?_alloc_lt _ _ ⟨w.heap.size, 1, none⟩ (by simp)]; simp
    have c2 : w1.cell? ⟨w.heap.size, 2, none⟩ = some (.int .i64 po) := by rw [hc _ _ (by simp <;> omega), World.cell?_alloc_lt _ _ ⟨w.heap.size, 2, none⟩ (by simp)]; simp
    have r0 : w1.cell? ⟨w.heap.size + 1, 0, none⟩ = some (.string ⟨#[]⟩) := by rw [hc _ _ (by simp <;> omega), World.cell?_alloc_at _ _ _ _ (by simp)]; rfl
    have r1 : w1.cell? ⟨w.heap.size + 1, 1, none⟩ = some (.string ⟨#[]⟩) := by rw [hc _ _ (by simp <;> omega), World.cell?_alloc_at _ _ _ _ (by simp)]; rfl
    have r2 : w1.cell? ⟨w.heap.size + 1, 2, none⟩ = some (.int .i64 0) := by rw [hc _ _ (by simp <;> omega), World.cell?_alloc_at _ _ _ _ (by simp)]; rfl
    have r3 : w1.cell? ⟨w.heap.size + 1, 3, none⟩ = some (.int .i64 0) := by rw [hc _ _ (by simp <;> omega), World.cell?_alloc_at _ _ _ _ (by simp)]; rfl
    have hfz : ∀ o, w1.frozen? ⟨w.heap.size + 1, o, none⟩ = false := fun o => by rw [hf _ _ (by simp <;> omega)]; simp
    have f0 := hfz 0
    have f1 := hfz 1
    have f2 := hfz 2
    have f3 := hfz 3
    clear hb hc hf hfz
    go_wp2_with fail
    go_region_held3 (fun w' => w.heap.size + 1 < w'.heap.size ∧ w'.cell? ⟨w.heap.size, 0, none⟩ = some (.string sc) ∧ w'.cell? ⟨w.heap.size, 1, none⟩ = some (.string ho) ∧ w'.cell? ⟨w.heap.size, 2, none⟩ = some (.int .i64 po)) (go_keep)
      (first
        | (go_at_call_of 79 (Value.string sc); refine (G2.out _).mono ?_; rintro e wA ⟨rfl, hbA⟩; have TA := OfAt.below (g := w.heap.size) (sc := sc) (ho := ho) (po := po) (by unfold OfAt; go_keep) hbA; obtain ⟨zA, p0A, p1A, p2A, q0A, q1A, q2A, q3A, f0A, f1A, f2A, f3A⟩ := TA)
        | (go_at_call_of 79 (Value.string ho); refine (G3.out _).mono ?_; rintro e wB ⟨rfl, hbB⟩; have TB := OfAt.below (g := w.heap.size) (sc := sc) (ho := ho) (po := po) (by unfold OfAt; go_keep) hbB; obtain ⟨zB, p0B, p1B, p2B, q0B, q1B, q2B, q3B, f0B, f1B, f2B, f3B⟩ := TB))
    have HBB : Hid (Below w.heap.size w wB) := (HB.out.trans (((Below.refl _ _).drew).trans (hbA.mono (by simp; omega)))).trans (hbB.mono (by omega))
    clear hbA hbB
    go_wp2
    refine bodyPost_ret (v := originV sc ho po 0) (by simp [originV, results, Tryd.results68, go_sem, q0B, q1B, q2B, q3B]) rfl ⟨rfl, ?_⟩
    exact Below.setCell (Below.setCell (Below.setCell (Below.setCell HBB.out (by simp) _) (by simp) _) (by simp) _) (by simp) _
theorem sameF_eq {sc ho : ByteArray} {po no : Int} {sc2 ho2 : ByteArray} {po2 no2 : Int} (h : sameF sc ho po no sc2 ho2 po2 no2 = true) : sc = sc2 ∧ ho = ho2 ∧ po = po2 ∧ no = no2 := by
  unfold sameF at h
  simp only [Bool.and_eq_true, beq_iff_eq] at h
  obtain ⟨⟨⟨h1, h2⟩, h3⟩, h4⟩ := h
  rw [ByteArray.toList_eq, ByteArray.toList_eq] at h1 h2
  refine ⟨?_, ?_, h3, h4⟩
  · cases sc; cases sc2; congr 1; exact Array.toList_inj.1 h1
  · cases ho; cases ho2; congr 1; exact Array.toList_inj.1 h2
set_option maxRecDepth 10000 in
set_option maxHeartbeats 400000 in
theorem originSame_any (sc ho : ByteArray) (po no : Int) (sc2 ho2 : ByteArray) (po2 no2 : Int) (w : World) (hG : MaxI w) (hh : ho.size ≤ 1048576) :
    Calls Tryd.prog 87 #[originV sc ho po no, originV sc2 ho2 po2 no2] w fun e w' => e = .returned (.bool (sameO sc ho po no sc2 ho2 po2 no2)) ∧ Below w.heap.size w w' := by
  have H1 := fun W (h : MaxI W) => originRight_any sc ho po no W h hh
  have HG : Hid (∀ o o', MaxI ((w.alloc o).alloc o')) := fun o o' => hG.on (((Below.refl _ _).alloc (Nat.le_refl _) _).alloc (by simp) _)
  have HS : Hid (sameO sc ho po no sc2 ho2 po2 no2 = (originB sc ho po no && originB sc2 ho2 po2 no2 && sameF sc ho po no sc2 ho2 po2 no2)) := rfl
  have HF : Hid (sameF sc ho po no sc2 ho2 po2 no2 = ((sc.toList == sc2.toList) && (ho.toList == ho2.toList) && (po == po2) && (no == no2))) := rfl
  have HE : Hid (sameF sc ho po no sc2 ho2 po2 no2 = true → originB sc2 ho2 po2 no2 = originB sc ho po no) := fun h => by
    obtain ⟨rfl, rfl, rfl, rfl⟩ := sameF_eq h
    rfl
  generalize originB sc ho po no = b at *
  unfold originV at H1 ⊢
  have G1 : Hid (∀ W, MaxI W → Calls Tryd.prog 101 #[.agg #[.string sc, .string ho, .int .i64 po, .int .i64 no]] W fun e w' => e = .returned (.bool b) ∧ Below W.heap.size W w') := H1
  clear H1 hG
  cases hs : sameF sc ho po no sc2 ho2 po2 no2 with
  | false =>
    have HQ : Hid (sameO sc ho po no sc2 ho2 po2 no2 = false) := by show _ = _; rw [HS.out, hs]; simp
    rw [HF.out] at hs
    have HW : Hid (∀ o o', Below w.heap.size w ((w.alloc o).alloc o')) := fun o o' => ((Below.refl _ _).alloc (Nat.le_refl _) _).alloc (by simp) _
    cases e1 : (sc.toList == sc2.toList) with
    | false =>
      go_enter Tryd.func87, Tryd.ntmps87
      go_wp2
      go_ret
      exact ⟨ret_bool HQ.out.symm, HW.out _ _⟩
    | true =>
      cases e2 : (ho.toList == ho2.toList) with
      | false =>
        go_enter Tryd.func87, Tryd.ntmps87
        go_wp2
        go_ret
        exact ⟨ret_bool HQ.out.symm, HW.out _ _⟩
      | true =>
        cases e3 : (po == po2) with
        | false =>
          go_enter Tryd.func87, Tryd.ntmps87
          go_wp2
          go_ret
          exact ⟨ret_bool HQ.out.symm, HW.out _ _⟩
        | true =>
          have e4 : (no == no2) = false := by rw [e1, e2, e3] at hs; exact hs
          go_enter Tryd.func87, Tryd.ntmps87
          go_wp2
          go_ret
          exact ⟨ret_bool HQ.out.symm, HW.out _ _⟩
  | true =>
    have HQ : Hid (sameO sc ho po no sc2 ho2 po2 no2 = b) := by show _ = _; rw [HS.out, hs, HE.out hs]; simp
    obtain ⟨rfl, rfl, rfl, rfl⟩ := sameF_eq hs
    clear hs HS HF HE
    go_enter Tryd.func87, Tryd.ntmps87
    go_wp2_with fail
    refine (G1.out _ (HG.out _ _)).mono ?_
    rintro e w1 ⟨rfl, hb⟩
    go_wp2
    all_goals
      go_ret
      exact ⟨ret_bool HQ.out.symm, (((Below.refl _ _).alloc (Nat.le_refl _) _).alloc (by simp) _).trans (hb.mono (by simp; omega))⟩
end Go.Proofs.YtnpaekjiafaahaaDoor

/- The walks of the program's frameOf and FrameOrigin. Written by implorg9.py. -/
namespace Go.Proofs.YtnpaekjiafaahaaDoor
open Go.RowKit

set_option maxRecDepth 10000 in
set_option maxHeartbeats 4000000 in
theorem frameOf_any (v : Value) (L : List Fr) (B : Nat) (id : Int) (w : World) (hG : MaxI w) (hs : SliceF w B v L) (hn : L.length ≤ 1048576) (hh : ∀ i, i < L.length → (atF L i).ho.size ≤ 1048576) :
    Calls Tryd.prog 67 #[v, .int .i64 id] w fun e w' => e = .returned (.tuple #[frV (if (hereF L id && framesB L) = true then getF L id else frNone), .bool (hereF L id && framesB L)]) ∧ Below w.heap.size w w' := by
  have KP : Hid (∀ W, Below w.heap.size w W → Calls Tryd.prog 59 #[v, .int .i64 id] W fun e w' => e = .returned (.int .i64 (whF L id)) ∧ Below W.heap.size W w') := fun W hb => placeOf9_any v L B id W (hs.below hb) hn
  have KR : Hid (∀ W, Below w.heap.size w W → Calls Tryd.prog 13 #[v] W fun e w' => e = .returned (.bool (framesB L)) ∧ Below W.heap.size W w') := fun W hb => framesRight_any v L B W (hG.on hb) (hs.below hb) hn hh
  have HH : Hid (hereF L id = true → (whF L id).toNat < L.length ∧ (whF L id) = ((whF L id).toNat : Int)) := fun h => hereF_at h
  have HE : Hid (hereF L id = decide (0 ≤ whF L id)) := rfl
  have HGe : Hid (getF L id = atF L (whF L id).toNat) := rfl
  have HS : Hid (SliceF w B v L) := hs
  have HX0 : Hid (BoxV (w.alloc (.cells #[.int .i64 0, .int .i64 0, .string ⟨#[]⟩, .string ⟨#[]⟩, .int .i64 0, .string ⟨#[]⟩, .bool false, .bool false, .int .i64 0] 60)) w.heap.size [.int .i64 0, .int .i64 0, .string ⟨#[]⟩, .string ⟨#[]⟩, .int .i64 0, .string ⟨#[]⟩, .bool false, .bool false, .int .i64 0]) := boxV_new w [.int .i64 0, .int .i64 0, .string ⟨#[]⟩, .string ⟨#[]⟩, .int .i64 0, .string ⟨#[]⟩, .bool false, .bool false, .int .i64 0] 60
  have HB0 : Hid (Below w.heap.size w (w.alloc (.cells #[.int .i64 0, .int .i64 0, .string ⟨#[]⟩, .string ⟨#[]⟩, .int .i64 0, .string ⟨#[]⟩, .bool false, .bool false, .int .i64 0] 60))) := (Below.refl _ _).alloc (Nat.le_refl _) _
  clear hs hG hh
  generalize framesB L = fb at *
  generalize getF L id = y at *
  generalize hereF L id = hf at *
  generalize whF L id = z at *
  go_enter Tryd.func67, Tryd.ntmps67
  go_wp2_with fail
  refine (KP.out _ HB0.out).mono ?_
  rintro e w1 ⟨rfl, hb1⟩
  have HX1 : Hid (BoxV w1 w.heap.size [.int .i64 0, .int .i64 0, .string ⟨#[]⟩, .string ⟨#[]⟩, .int .i64 0, .string ⟨#[]⟩, .bool false, .bool false, .int .i64 0]) := HX0.out.below hb1
  have B1 : Hid (Below w.heap.size w w1) := HB0.out.trans (hb1.mono HB0.out.size)
  clear hb1 HX0 HB0 KP
  generalize hbb : w.heap.size = b at *
  cases hf with
  | false =>
    have q0 : decide (z < 0) = true := by
      have h : false = decide (0 ≤ z) := HE.out
      have := of_decide_eq_false h.symm
      exact decide_eq_true (by omega)
    have x0 : w1.cell? ⟨b, 0, none⟩ = some (.int .i64 0) := HX1.out.at (i := 0) rfl
    have xf0 : w1.frozen? ⟨b, 0, none⟩ = false := HX1.out.free (i := 0) rfl
    have x1 : w1.cell? ⟨b, 1, none⟩ = some (.int .i64 0) := HX1.out.at (i := 1) rfl
    have xf1 : w1.frozen? ⟨b, 1, none⟩ = false := HX1.out.free (i := 1) rfl
    have x2 : w1.cell? ⟨b, 2, none⟩ = some (.string ⟨#[]⟩) := HX1.out.at (i := 2) rfl
    have xf2 : w1.frozen? ⟨b, 2, none⟩ = false := HX1.out.free (i := 2) rfl
    have x3 : w1.cell? ⟨b, 3, none⟩ = some (.string ⟨#[]⟩) := HX1.out.at (i := 3) rfl
    have xf3 : w1.frozen? ⟨b, 3, none⟩ = false := HX1.out.free (i := 3) rfl
    have x4 : w1.cell? ⟨b, 4, none⟩ = some (.int .i64 0) := HX1.out.at (i := 4) rfl
    have xf4 : w1.frozen? ⟨b, 4, none⟩ = false := HX1.out.free (i := 4) rfl
    have x5 : w1.cell? ⟨b, 5, none⟩ = some (.string ⟨#[]⟩) := HX1.out.at (i := 5) rfl
    have xf5 : w1.frozen? ⟨b, 5, none⟩ = false := HX1.out.free (i := 5) rfl
    have x6 : w1.cell? ⟨b, 6, none⟩ = some (.bool false) := HX1.out.at (i := 6) rfl
    have xf6 : w1.frozen? ⟨b, 6, none⟩ = false := HX1.out.free (i := 6) rfl
    have x7 : w1.cell? ⟨b, 7, none⟩ = some (.bool false) := HX1.out.at (i := 7) rfl
    have xf7 : w1.frozen? ⟨b, 7, none⟩ = false := HX1.out.free (i := 7) rfl
    have x8 : w1.cell? ⟨b, 8, none⟩ = some (.int .i64 0) := HX1.out.at (i := 8) rfl
    have xf8 : w1.frozen? ⟨b, 8, none⟩ = false := HX1.out.free (i := 8) rfl
    clear HX1
    go_wp2
    exact bodyPost_ret (v := .tuple #[.agg #[.int .i64 0, .int .i64 0, .string ⟨#[]⟩, .string ⟨#[]⟩, .int .i64 0, .string ⟨#[]⟩, .bool false, .bool false, .int .i64 0], .bool false]) (by simp [results, Tryd.results67, go_sem, x0, x1, x2, x3, x4, x5, x6, x7, x8]) rfl ⟨rfl, (Below.setCell (Below.setCell (Below.setCell (Below.setCell (Below.setCell (Below.setCell (Below.setCell (Below.setCell (Below.setCell B1.out (Nat.le_refl _) _) (Nat.le_refl _) _) (Nat.le_refl _) _) (Nat.le_refl _) _) (Nat.le_refl _) _) (Nat.le_refl _) _) (Nat.le_refl _) _) (Nat.le_refl _) _) (Nat.le_refl _) _)⟩
  | true =>
  have q0 : decide (z < 0) = false := by
    have h : true = decide (0 ≤ z) := HE.out
    have := of_decide_eq_true h.symm
    exact decide_eq_false (by omega)
  obtain ⟨k, hk, hz2⟩ : ∃ k : Nat, k = z.toNat ∧ z = (k : Int) := ⟨z.toNat, rfl, (HH.out rfl).2⟩
  have k1 : k < L.length := by rw [hk]; exact (HH.out rfl).1
  have HGk : Hid (y = atF L k) := by show y = _; rw [hk]; exact HGe.out
  clear HE HH HGe hk
  subst hz2
  go_wp2_with fail
  refine (KR.out _ (by first | exact B1.out | (rw [hbb]; exact B1.out))).mono ?_
  rintro e w2 ⟨rfl, hb2⟩
  have HX2 : Hid (BoxV w2 b [.int .i64 0, .int .i64 0, .string ⟨#[]⟩, .string ⟨#[]⟩, .int .i64 0, .string ⟨#[]⟩, .bool false, .bool false, .int .i64 0]) := HX1.out.below hb2
  have B2 : Hid (Below b w w2) := B1.out.trans (hb2.mono (by rw [← hbb]; exact B1.out.size))
  clear hb2 HX1 KR
  have x0 : w2.cell? ⟨b, 0, none⟩ = some (.int .i64 0) := HX2.out.at (i := 0) rfl
  have xf0 : w2.frozen? ⟨b, 0, none⟩ = false := HX2.out.free (i := 0) rfl
  have x1 : w2.cell? ⟨b, 1, none⟩ = some (.int .i64 0) := HX2.out.at (i := 1) rfl
  have xf1 : w2.frozen? ⟨b, 1, none⟩ = false := HX2.out.free (i := 1) rfl
  have x2 : w2.cell? ⟨b, 2, none⟩ = some (.string ⟨#[]⟩) := HX2.out.at (i := 2) rfl
  have xf2 : w2.frozen? ⟨b, 2, none⟩ = false := HX2.out.free (i := 2) rfl
  have x3 : w2.cell? ⟨b, 3, none⟩ = some (.string ⟨#[]⟩) := HX2.out.at (i := 3) rfl
  have xf3 : w2.frozen? ⟨b, 3, none⟩ = false := HX2.out.free (i := 3) rfl
  have x4 : w2.cell? ⟨b, 4, none⟩ = some (.int .i64 0) := HX2.out.at (i := 4) rfl
  have xf4 : w2.frozen? ⟨b, 4, none⟩ = false := HX2.out.free (i := 4) rfl
  have x5 : w2.cell? ⟨b, 5, none⟩ = some (.string ⟨#[]⟩) := HX2.out.at (i := 5) rfl
  have xf5 : w2.frozen? ⟨b, 5, none⟩ = false := HX2.out.free (i := 5) rfl
  have x6 : w2.cell? ⟨b, 6, none⟩ = some (.bool false) := HX2.out.at (i := 6) rfl
  have xf6 : w2.frozen? ⟨b, 6, none⟩ = false := HX2.out.free (i := 6) rfl
  have x7 : w2.cell? ⟨b, 7, none⟩ = some (.bool false) := HX2.out.at (i := 7) rfl
  have xf7 : w2.frozen? ⟨b, 7, none⟩ = false := HX2.out.free (i := 7) rfl
  have x8 : w2.cell? ⟨b, 8, none⟩ = some (.int .i64 0) := HX2.out.at (i := 8) rfl
  have xf8 : w2.frozen? ⟨b, 8, none⟩ = false := HX2.out.free (i := 8) rfl
  clear HX2 B1
  cases fb with
  | false =>
    go_wp2
    exact bodyPost_ret (v := .tuple #[.agg #[.int .i64 0, .int .i64 0, .string ⟨#[]⟩, .string ⟨#[]⟩, .int .i64 0, .string ⟨#[]⟩, .bool false, .bool false, .int .i64 0], .bool false]) (by simp [results, Tryd.results67, go_sem, x0, x1, x2, x3, x4, x5, x6, x7, x8]) rfl ⟨rfl, (Below.setCell (Below.setCell (Below.setCell (Below.setCell (Below.setCell (Below.setCell (Below.setCell (Below.setCell (Below.setCell B2.out (Nat.le_refl _) _) (Nat.le_refl _) _) (Nat.le_refl _) _) (Nat.le_refl _) _) (Nat.le_refl _) _) (Nat.le_refl _) _) (Nat.le_refl _) _) (Nat.le_refl _) _) (Nat.le_refl _) _)⟩
  | true =>
    obtain ⟨⟨p, cap, rfl, hg⟩, -⟩ := HS.out
    obtain ⟨g, rfl, -, hgw, hc⟩ := hg (by omega)
    clear hg HS
    have e1 : y = atF L k := HGk.out
    clear HGk
    have k0 : (0 : Int) ≤ k := by omega
    have k2 : (k : Int) < L.length := by omega
    have hbw : ∀ o, w2.cell? ⟨g, o, none⟩ = w.cell? ⟨g, o, none⟩ := fun o => B2.out.cell (p := ⟨g, o, none⟩) (by rw [← hbb]; exact hgw)
    have c0 : w2.cell? ⟨g, k * 9, none⟩ = some (.int .i64 (y).id) := by rw [hbw, e1]; exact (hc k k1 0 (by omega)).1
    have c1 : w2.cell? ⟨g, k * 9 + 1, none⟩ = some (.int .i64 (y).pa) := by rw [hbw, e1]; exact (hc k k1 1 (by omega)).1
    have c2 : w2.cell? ⟨g, k * 9 + 2, none⟩ = some (.string (y).sc) := by rw [hbw, e1]; exact (hc k k1 2 (by omega)).1
    have c3 : w2.cell? ⟨g, k * 9 + 3, none⟩ = some (.string (y).ho) := by rw [hbw, e1]; exact (hc k k1 3 (by omega)).1
    have c4 : w2.cell? ⟨g, k * 9 + 4, none⟩ = some (.int .i64 (y).po) := by rw [hbw, e1]; exact (hc k k1 4 (by omega)).1
    have c5 : w2.cell? ⟨g, k * 9 + 5, none⟩ = some (.string (y).pt) := by rw [hbw, e1]; exact (hc k k1 5 (by omega)).1
    have c6 : w2.cell? ⟨g, k * 9 + 6, none⟩ = some (.bool (y).sb) := by rw [hbw, e1]; exact (hc k k1 6 (by omega)).1
    have c7 : w2.cell? ⟨g, k * 9 + 7, none⟩ = some (.bool (y).fl) := by rw [hbw, e1]; exact (hc k k1 7 (by omega)).1
    have c8 : w2.cell? ⟨g, k * 9 + 8, none⟩ = some (.int .i64 (y).tc) := by rw [hbw, e1]; exact (hc k k1 8 (by omega)).1
    clear hc hbw e1 hgw
    obtain ⟨yid, ypa, ysc, yho, ypo, ypt, ysb, yfl, ytc⟩ := y
    dsimp only at *
    go_wp2
    exact bodyPost_ret (v := .tuple #[.agg #[.int .i64 yid, .int .i64 ypa, .string ysc, .string yho, .int .i64 ypo, .string ypt, .bool ysb, .bool yfl, .int .i64 ytc], .bool true]) (by simp [results, Tryd.results67, go_sem, x0, x1, x2, x3, x4, x5, x6, x7, x8]) rfl ⟨rfl, (Below.setCell (Below.setCell (Below.setCell (Below.setCell (Below.setCell (Below.setCell (Below.setCell (Below.setCell (Below.setCell B2.out (Nat.le_refl _) _) (Nat.le_refl _) _) (Nat.le_refl _) _) (Nat.le_refl _) _) (Nat.le_refl _) _) (Nat.le_refl _) _) (Nat.le_refl _) _) (Nat.le_refl _) _) (Nat.le_refl _) _)⟩
set_option maxRecDepth 10000 in
set_option maxHeartbeats 4000000 in
theorem frameOrigin_any (v : Value) (L : List Fr) (B : Nat) (id : Int) (w : World) (hG : MaxI w) (hs : SliceF w B v L) (hn : L.length ≤ 1048576) (hh : ∀ i, i < L.length → (atF L i).ho.size ≤ 1048576) :
    Calls Tryd.prog 34 #[v, .int .i64 id] w fun e w' => e = .returned (ogV (orgF L id)) ∧ Below w.heap.size w w' := by
  have KF : Hid (∀ W, Below w.heap.size w W → Calls Tryd.prog 67 #[v, .int .i64 id] W fun e w' => e = .returned (.tuple #[frV (if (hereF L id && framesB L) = true then getF L id else frNone), .bool (hereF L id && framesB L)]) ∧ Below W.heap.size W w') := fun W hb => frameOf_any v L B id W (hG.on hb) (hs.below hb) hn hh
  have HE : Hid (orgF L id = if (hereF L id && framesB L) = true then ogF (getF L id) else ogNone) := rfl
  have HHo : Hid ((hereF L id && framesB L) = true → (getF L id).ho.size ≤ 1048576) := fun h => by
    rw [Bool.and_eq_true] at h
    exact hh _ (hereF_at h.1).1
  have HX0 : Hid (BoxV (w.alloc (.cells #[.string ⟨#[]⟩, .string ⟨#[]⟩, .int .i64 0, .int .i64 0] 51)) w.heap.size [.string ⟨#[]⟩, .string ⟨#[]⟩, .int .i64 0, .int .i64 0]) := boxV_new w [.string ⟨#[]⟩, .string ⟨#[]⟩, .int .i64 0, .int .i64 0] 51
  have HB0 : Hid (Below w.heap.size w (w.alloc (.cells #[.string ⟨#[]⟩, .string ⟨#[]⟩, .int .i64 0, .int .i64 0] 51))) := (Below.refl _ _).alloc (Nat.le_refl _) _
  have HGo : Hid (∀ W, Below w.heap.size w W → MaxI W) := fun W hb => hG.on hb
  clear hs hG hh
  generalize orgF L id = R at *
  generalize hok : (hereF L id && framesB L) = ok at *
  generalize getF L id = y at *
  cases ok with
  | false =>
    have HQ : Hid (R = ogNone) := HE.out
    clear HHo HE
    rw [if_neg (by decide)] at KF
    go_enter Tryd.func34, Tryd.ntmps34
    go_wp2_with fail
    refine (KF.out _ HB0.out).mono ?_
    rintro e w1 ⟨rfl, hb1⟩
    have HX1 : Hid (BoxV w1 w.heap.size [.string ⟨#[]⟩, .string ⟨#[]⟩, .int .i64 0, .int .i64 0]) := HX0.out.below hb1
    have B1 : Hid (Below w.heap.size w w1) := HB0.out.trans (hb1.mono HB0.out.size)
    clear hb1 HX0 HB0 KF
    generalize hbb : w.heap.size = b at *
    have x0 : w1.cell? ⟨b, 0, none⟩ = some (.string ⟨#[]⟩) := HX1.out.at (i := 0) rfl
    have xf0 : w1.frozen? ⟨b, 0, none⟩ = false := HX1.out.free (i := 0) rfl
    have x1 : w1.cell? ⟨b, 1, none⟩ = some (.string ⟨#[]⟩) := HX1.out.at (i := 1) rfl
    have xf1 : w1.frozen? ⟨b, 1, none⟩ = false := HX1.out.free (i := 1) rfl
    have x2 : w1.cell? ⟨b, 2, none⟩ = some (.int .i64 0) := HX1.out.at (i := 2) rfl
    have xf2 : w1.frozen? ⟨b, 2, none⟩ = false := HX1.out.free (i := 2) rfl
    have x3 : w1.cell? ⟨b, 3, none⟩ = some (.int .i64 0) := HX1.out.at (i := 3) rfl
    have xf3 : w1.frozen? ⟨b, 3, none⟩ = false := HX1.out.free (i := 3) rfl
    have hz : b < w1.heap.size := HX1.out.1
    clear HX1
    unfold frV frNone
    dsimp only
    go_wp2
    exact bodyPost_ret (v := .agg #[.string ⟨#[]⟩, .string ⟨#[]⟩, .int .i64 0, .int .i64 0]) (by simp [results, Tryd.results34, go_sem, cell_under9, hz, x0, x1, x2, x3]) rfl ⟨by rw [HQ.out]; rfl, by rw [hbb]; exact Below.alloc (Below.setCell (Below.setCell (Below.setCell (Below.setCell B1.out (Nat.le_refl _) _) (Nat.le_refl _) _) (Nat.le_refl _) _) (Nat.le_refl _) _) (by simp; omega) _⟩
  | true =>
    have HQ : Hid (R = ogF y) := HE.out
    have hho := HHo.out rfl
    rw [if_pos rfl] at KF
    have KO0 : ∀ W, Below w.heap.size w W → Calls Tryd.prog 68 #[.agg #[.string y.sc, .string y.ho, .int .i64 y.po, .string y.pt]] W fun e w' => e = .returned (ogV (ogUrl y.sc y.ho y.pt y.po)) ∧ Below W.heap.size W w' := fun W hb => by
      have := originOf_any y.sc y.ho y.pt y.po W (HGo.out W hb) hho
      rw [ogUrl_V] at this
      exact this
    have HO1 : Hid (y.sb = true → ogF y = ⟨⟨#[]⟩, ⟨#[]⟩, 0, y.id⟩) := fun h => by unfold ogF; rw [if_pos h]
    have HO2 : Hid (y.sb = false → ogF y = ogUrl y.sc y.ho y.pt y.po) := fun h => by unfold ogF; rw [if_neg (by rw [h]; decide)]
    clear HHo HE hho HGo
    generalize ogF y = q at *
    generalize hou : ogUrl y.sc y.ho y.pt y.po = ou at *
    clear hou
    obtain ⟨yid, ypa, ysc, yho, ypo, ypt, ysb, yfl, ytc⟩ := y
    obtain ⟨o1, o2, o3, o4⟩ := ou
    unfold frV ogV at *
    dsimp only at *
    have KO : Hid (∀ W, Below w.heap.size w W → Calls Tryd.prog 68 #[.agg #[.string ysc, .string yho, .int .i64 ypo, .string ypt]] W fun e w' => e = .returned (.agg #[.string o1, .string o2, .int .i64 o3, .int .i64 o4]) ∧ Below W.heap.size W w') := KO0
    clear KO0
    go_enter Tryd.func34, Tryd.ntmps34
    go_wp2_with fail
    refine (KF.out _ HB0.out).mono ?_
    rintro e w1 ⟨rfl, hb1⟩
    have HX1 : Hid (BoxV w1 w.heap.size [.string ⟨#[]⟩, .string ⟨#[]⟩, .int .i64 0, .int .i64 0]) := HX0.out.below hb1
    have B1 : Hid (Below w.heap.size w w1) := HB0.out.trans (hb1.mono HB0.out.size)
    clear hb1 HX0 HB0 KF
    cases ysb with
    | true =>
      have HR : Hid (R = ⟨⟨#[]⟩, ⟨#[]⟩, 0, yid⟩) := by show R = _; rw [HQ.out]; exact HO1.out rfl
      clear HO1 HO2 HQ KO
      generalize hbb : w.heap.size = b at *
      have x0 : w1.cell? ⟨b, 0, none⟩ = some (.string ⟨#[]⟩) := HX1.out.at (i := 0) rfl
      have xf0 : w1.frozen? ⟨b, 0, none⟩ = false := HX1.out.free (i := 0) rfl
      have x1 : w1.cell? ⟨b, 1, none⟩ = some (.string ⟨#[]⟩) := HX1.out.at (i := 1) rfl
      have xf1 : w1.frozen? ⟨b, 1, none⟩ = false := HX1.out.free (i := 1) rfl
      have x2 : w1.cell? ⟨b, 2, none⟩ = some (.int .i64 0) := HX1.out.at (i := 2) rfl
      have xf2 : w1.frozen? ⟨b, 2, none⟩ = false := HX1.out.free (i := 2) rfl
      have x3 : w1.cell? ⟨b, 3, none⟩ = some (.int .i64 0) := HX1.out.at (i := 3) rfl
      have xf3 : w1.frozen? ⟨b, 3, none⟩ = false := HX1.out.free (i := 3) rfl
      have hz : b < w1.heap.size := HX1.out.1
      clear HX1
      go_wp2
      exact bodyPost_ret (v := .agg #[.string ⟨#[]⟩, .string ⟨#[]⟩, .int .i64 0, .int .i64 yid]) (by simp [results, Tryd.results34, go_sem, cell_under9, hz, x0, x1, x2, x3]) rfl ⟨by rw [HR.out], by rw [hbb]; exact Below.alloc (Below.setCell (Below.setCell (Below.setCell (Below.setCell B1.out (Nat.le_refl _) _) (Nat.le_refl _) _) (Nat.le_refl _) _) (Nat.le_refl _) _) (by simp; omega) _⟩
    | false =>
      have HR : Hid (R = ⟨o1, o2, o3, o4⟩) := by show R = _; rw [HQ.out]; exact HO2.out rfl
      clear HO1 HO2 HQ
      go_wp2_with fail
      refine (KO.out _ (B1.out.alloc B1.out.size _)).mono ?_
      rintro e w2 ⟨rfl, hb2⟩
      have HX2 : Hid (BoxV w2 w.heap.size [.string ⟨#[]⟩, .string ⟨#[]⟩, .int .i64 0, .int .i64 0]) := (HX1.out.alloc _).below hb2
      have B2 : Hid (Below w.heap.size w w2) := (B1.out.alloc B1.out.size _).trans (hb2.mono (by simp; exact Nat.le_succ_of_le B1.out.size))
      clear hb2 HX1 B1 KO
      generalize hbb : w.heap.size = b at *
      have x0 : w2.cell? ⟨b, 0, none⟩ = some (.string ⟨#[]⟩) := HX2.out.at (i := 0) rfl
      have xf0 : w2.frozen? ⟨b, 0, none⟩ = false := HX2.out.free (i := 0) rfl
      have x1 : w2.cell? ⟨b, 1, none⟩ = some (.string ⟨#[]⟩) := HX2.out.at (i := 1) rfl
      have xf1 : w2.frozen? ⟨b, 1, none⟩ = false := HX2.out.free (i := 1) rfl
      have x2 : w2.cell? ⟨b, 2, none⟩ = some (.int .i64 0) := HX2.out.at (i := 2) rfl
      have xf2 : w2.frozen? ⟨b, 2, none⟩ = false := HX2.out.free (i := 2) rfl
      have x3 : w2.cell? ⟨b, 3, none⟩ = some (.int .i64 0) := HX2.out.at (i := 3) rfl
      have xf3 : w2.frozen? ⟨b, 3, none⟩ = false := HX2.out.free (i := 3) rfl
      clear HX2
      go_wp2
      exact bodyPost_ret (v := .agg #[.string o1, .string o2, .int .i64 o3, .int .i64 o4]) (by simp [results, Tryd.results34, go_sem, x0, x1, x2, x3]) rfl ⟨by rw [HR.out], by rw [hbb]; exact (Below.setCell (Below.setCell (Below.setCell (Below.setCell B2.out (Nat.le_refl _) _) (Nat.le_refl _) _) (Nat.le_refl _) _) (Nat.le_refl _) _)⟩
end Go.Proofs.YtnpaekjiafaahaaDoor

/- The walk of the program's FrameThird over the iterator. Written by thirdi.py. -/
namespace Go.Proofs.YtnpaekjiafaahaaDoor
open Go.RowKit Go.Maps Go.Shelf
attribute [local go_sem] Oper.semAt_some

set_option maxRecDepth 100000 in
set_option maxHeartbeats 16000000 in
theorem frameThird_any (v rv : Value) (L : List Fr) (B Br n : Nat) (f : Nat → ByteArray) (id : Int) (w : World) (hG : MaxI w) (hs : SliceF w B v L) (hn : L.length ≤ 1048576) (hh : ∀ i, i < L.length → (atF L i).ho.size ≤ 1048576) (hr : SliceS w Br rv n f) (l1 : n ≤ 1048576) (hf : ∀ i, i < n → (f i).size ≤ 1048576) (i1 : -9223372036854775808 ≤ id) (i2 : id ≤ 9223372036854775807) :
    Calls Tryd.prog 37 #[v, rv, .int .i64 id] w fun e w' => e = .returned (.bool (thirdF n f L id)) ∧ Below w.heap.size w w' := by
  obtain ⟨pr, capr, rfl⟩ : ∃ p cap, rv = .slice p n cap := by obtain ⟨p, c, e, -⟩ := hr; exact ⟨p, c, e⟩
  have KF0 : ∀ W, Below w.heap.size w W → Calls Tryd.prog 67 #[v, .int .i64 id] W fun e w' => e = .returned (.tuple #[frV (if (hereF L id && framesB L) = true then getF L id else frNone), .bool (hereF L id && framesB L)]) ∧ Below W.heap.size W w' := fun W hb => frameOf_any v L B id W (hG.on hb) (hs.below hb) hn hh
  have KR : Hid (∀ W, Below w.heap.size w W → Calls Tryd.prog 58 #[.slice pr n capr] W fun e w' => e = .returned (.bool (rulesB n f)) ∧ Below W.heap.size W w') := fun W hb => rulesRight_any (.slice pr n capr) n Br f W (hG.on hb) (hr.below hb) l1 hf
  have HE : Hid (thirdF n f L id = ((framesB L && rulesB n f && hereF L id) && (wayF L id).any (strB n f (getF L id)))) := rfl
  have HX0 : Hid (BoxV ((w.alloc (.cells #[.slice pr n capr] 41)).alloc (.cells #[.bool false] 4)) (w.heap.size + 1) [.bool false]) := by
    have h := boxV_new (w.alloc (.cells #[.slice pr n capr] 41)) [.bool false] 4
    rw [World.size_alloc] at h
    exact h
  have HQ0 : Hid (BoxV ((w.alloc (.cells #[.slice pr n capr] 41)).alloc (.cells #[.bool false] 4)) w.heap.size [.slice pr n capr]) := (boxV_new w [.slice pr n capr] 41).alloc _
  have HB0 : Hid (Below w.heap.size w ((w.alloc (.cells #[.slice pr n capr] 41)).alloc (.cells #[.bool false] 4))) := ((Below.refl _ _).alloc (Nat.le_refl _) _).alloc (by simp) _
  cases hok : (hereF L id && framesB L) with
  | false =>
    have HQ : Hid (thirdF n f L id = false) := by
      show _ = _
      rw [HE.out]
      rw [Bool.and_comm] at hok
      cases h1 : framesB L with
      | false => simp
      | true => rw [h1, Bool.true_and] at hok; rw [hok]; simp
    rw [hok, if_neg (by decide)] at KF0
    unfold frV frNone at KF0
    dsimp only at KF0
    have KF : Hid (∀ W, Below w.heap.size w W → Calls Tryd.prog 67 #[v, .int .i64 id] W fun e w' => e = .returned (.tuple #[.agg #[.int .i64 0, .int .i64 0, .string ⟨#[]⟩, .string ⟨#[]⟩, .int .i64 0, .string ⟨#[]⟩, .bool false, .bool false, .int .i64 0], .bool false]) ∧ Below W.heap.size W w') := KF0
    clear KF0 HE hs hr hG hh hf KR
    generalize thirdF n f L id = R at *
    go_enter Tryd.func37, Tryd.ntmps37
    go_wp2_with fail
    refine (KF.out _ HB0.out).mono ?_
    rintro e w1 ⟨rfl, hb1⟩
    have HX1 : Hid (BoxV w1 (w.heap.size + 1) [.bool false]) := HX0.out.below hb1
    have HQ1 : Hid (BoxV w1 w.heap.size [.slice pr n capr]) := HQ0.out.below hb1
    have B1 : Hid (Below w.heap.size w w1) := HB0.out.trans (hb1.mono HB0.out.size)
    clear hb1 HX0 HB0 HQ0 KF
    generalize hbb : w.heap.size = b at *
    have x0 : w1.cell? ⟨b + 1, 0, none⟩ = some (.bool false) := HX1.out.at (i := 0) rfl
    have xf0 : w1.frozen? ⟨b + 1, 0, none⟩ = false := HX1.out.free (i := 0) rfl
    have hz : b + 1 < w1.heap.size := HX1.out.1
    clear HX1 HQ1
    go_wp2
    exact bodyPost_ret (v := .bool false) (by simp [results, Tryd.results37, go_sem, cell_under9, hz, x0]) rfl ⟨ret_bool HQ.out.symm, by first | (rw [hbb]; exact Below.alloc (Below.setCell B1.out (Nat.le_succ _) _) (by simp; omega) _) | exact Below.alloc (Below.setCell B1.out (Nat.le_succ _) _) (by simp; omega) _⟩
  | true =>
  obtain ⟨hh1, hL⟩ : hereF L id = true ∧ framesB L = true := by rw [Bool.and_eq_true] at hok; exact hok
  rw [hok, if_pos rfl] at KF0
  obtain ⟨ky, hky, -, egy, -⟩ := here_wh hh1
  have huy : uF (getF L id) = true := by rw [egy]; exact okF_u ((framesB_parts hL).2 ky hky)
  have HE2 : Hid (thirdF n f L id = (rulesB n f && (wayF L id).any (strB n f (getF L id)))) := by show _ = _; rw [HE.out, hL, hh1]; simp
  have KS0 : ∀ (x : Fr), uF x = true → rulesB n f = true → ∀ W, Below w.heap.size w W → Calls Tryd.prog 72 #[.slice pr n capr, .agg #[.string x.sc, .string x.ho, .int .i64 x.po, .string x.pt], .agg #[.string (getF L id).sc, .string (getF L id).ho, .int .i64 (getF L id).po, .string (getF L id).pt]] W fun e w' => e = .returned (.bool (!(strB n f (getF L id) x))) ∧ Below W.heap.size W w' := fun x hx hR W hb => by
    have h := sameSite_any (.slice pr n capr) n Br f x.sc x.ho x.pt x.po (getF L id).sc (getF L id).ho (getF L id).pt (getF L id).po W (hG.on hb) (hr.below hb) l1 hf (by have := (urlB_parts hx).2.1; omega) (by have := (urlB_parts huy).2.1; omega)
    rw [sameS_str hR hx huy] at h
    exact h
  have HT : Hid (∀ W, Below w.heap.size w W → Calls Tryd.prog 70 #[v] W fun e w' => ∃ bm, e = .returned (.map (some bm)) ∧ W.heap.size ≤ bm ∧ TreeIs w' bm 10 L ∧ Below W.heap.size W w') := fun W hb => treeOf_any v L B W (hs.below hb) hL
  have HLr : Hid (framesB L = true) := hL
  clear hok HE hs hr hG hh hf hh1 hky egy huy hL ky
  generalize hyy : getF L id = y at *
  clear hyy
  obtain ⟨yid, ypa, ysc, yho, ypo, ypt, ysb, yfl, ytc⟩ := y
  unfold frV at KF0
  dsimp only at KF0 KS0
  have KF : Hid (∀ W, Below w.heap.size w W → Calls Tryd.prog 67 #[v, .int .i64 id] W fun e w' => e = .returned (.tuple #[.agg #[.int .i64 yid, .int .i64 ypa, .string ysc, .string yho, .int .i64 ypo, .string ypt, .bool ysb, .bool yfl, .int .i64 ytc], .bool true]) ∧ Below W.heap.size W w') := KF0
  clear KF0
  generalize hst : strB n f ⟨yid, ypa, ysc, yho, ypo, ypt, ysb, yfl, ytc⟩ = st at *
  clear hst
  cases hrb : rulesB n f with
  | false =>
    have HQ : Hid (thirdF n f L id = false) := by show _ = _; rw [HE2.out, hrb, Bool.false_and]
    rw [hrb] at KR
    clear HE2 KS0 HT HLr hrb
    generalize thirdF n f L id = R at *
    go_enter Tryd.func37, Tryd.ntmps37
    go_wp2_with fail
    refine (KF.out _ HB0.out).mono ?_
    rintro e w1 ⟨rfl, hb1⟩
    have HX1 : Hid (BoxV w1 (w.heap.size + 1) [.bool false]) := HX0.out.below hb1
    have HQ1 : Hid (BoxV w1 w.heap.size [.slice pr n capr]) := HQ0.out.below hb1
    have B1 : Hid (Below w.heap.size w w1) := HB0.out.trans (hb1.mono HB0.out.size)
    clear hb1 HX0 HB0 HQ0 KF
    have q0 : w1.cell? ⟨w.heap.size, 0, none⟩ = some (.slice pr n capr) := HQ1.out.at (i := 0) rfl
    have hz1 : w.heap.size < w1.heap.size := HQ1.out.1
    go_wp2_with fail
    refine (KR.out _ (B1.out.alloc B1.out.size _)).mono ?_
    rintro e w2 ⟨rfl, hb2⟩
    have HX2 : Hid (BoxV w2 (w.heap.size + 1) [.bool false]) := (HX1.out.alloc _).below hb2
    have B2 : Hid (Below w.heap.size w w2) := (B1.out.alloc B1.out.size _).trans (hb2.mono (by simp; exact Nat.le_succ_of_le B1.out.size))
    clear hb2 HX1 HQ1 B1 KR q0 hz1
    generalize hbb : w.heap.size = b at *
    have x0 : w2.cell? ⟨b + 1, 0, none⟩ = some (.bool false) := HX2.out.at (i := 0) rfl
    have xf0 : w2.frozen? ⟨b + 1, 0, none⟩ = false := HX2.out.free (i := 0) rfl
    clear HX2
    go_wp2
    exact bodyPost_ret (v := .bool false) (by simp [results, Tryd.results37, go_sem, x0]) rfl ⟨ret_bool HQ.out.symm, by first | (rw [hbb]; exact Below.setCell B2.out (Nat.le_succ _) _) | exact Below.setCell B2.out (Nat.le_succ _) _⟩
  | true =>
    have HQ : Hid (thirdF n f L id = (wayF L id).any st) := by show _ = _; rw [HE2.out, hrb, Bool.true_and]
    rw [hrb] at KR
    have KS1 : Hid (∀ (x : Fr), uF x = true → ∀ W, Below w.heap.size w W → Calls Tryd.prog 72 #[.slice pr n capr, .agg #[.string x.sc, .string x.ho, .int .i64 x.po, .string x.pt], .agg #[.string ysc, .string yho, .int .i64 ypo, .string ypt]] W fun e w' => e = .returned (.bool (!(st x))) ∧ Below W.heap.size W w') := fun x hx W hb => KS0 x hx hrb W hb
    clear HE2 KS0 hrb
    refine (callsIn_wide (n := 6)).1 ?_
    refine callsIn_of_wp_marks Tryd.func37 rfl trivial ?_ rfl
    simp only [Tryd.ntmps37, List.size_toArray, List.length_cons, List.length_nil, Nat.reduceAdd, Nat.reduceSub, Array.replicate_succ, Array.replicate_zero, List.push_toArray, List.append_toArray, List.nil_append, List.cons_append]
    gi_wp2_with fail
    refine ⟨trivial, ?_⟩
    refine (callsIn_wide.2 (KF.out _ HB0.out)).mono ?_
    rintro e w1 ⟨rfl, hb1⟩
    have HX1 : Hid (BoxV w1 (w.heap.size + 1) [.bool false]) := HX0.out.below hb1
    have HQ1 : Hid (BoxV w1 w.heap.size [.slice pr n capr]) := HQ0.out.below hb1
    have B1 : Hid (Below w.heap.size w w1) := HB0.out.trans (hb1.mono HB0.out.size)
    clear hb1 HX0 HB0 HQ0 KF
    have q0 : w1.cell? ⟨w.heap.size, 0, none⟩ = some (.slice pr n capr) := HQ1.out.at (i := 0) rfl
    have hz1 : w.heap.size < w1.heap.size := HQ1.out.1
    gi_wp2_with fail
    refine ⟨trivial, ?_⟩
    refine (callsIn_wide.2 (KR.out _ (B1.out.alloc B1.out.size _))).mono ?_
    rintro e w2 ⟨rfl, hb2⟩
    have HX2 : Hid (BoxV w2 (w.heap.size + 1) [.bool false]) := (HX1.out.alloc _).below hb2
    have HQ2 : Hid (BoxV w2 w.heap.size [.slice pr n capr]) := (HQ1.out.alloc _).below hb2
    have HF2 : Hid (BoxV w2 w1.heap.size [.int .i64 yid, .int .i64 ypa, .string ysc, .string yho, .int .i64 ypo, .string ypt, .bool ysb, .bool yfl, .int .i64 ytc]) := (boxV_new w1 [.int .i64 yid, .int .i64 ypa, .string ysc, .string yho, .int .i64 ypo, .string ypt, .bool ysb, .bool yfl, .int .i64 ytc] 60).below hb2
    have B2 : Hid (Below w.heap.size w w2) := (B1.out.alloc B1.out.size _).trans (hb2.mono (by simp; exact Nat.le_succ_of_le B1.out.size))
    clear hb2 HX1 HQ1 B1 KR q0
    have z1 : w.heap.size + 1 < w1.heap.size + 1 := by omega
    gi_wp2_with fail
    refine ⟨trivial, ?_⟩
    refine (callsIn_wide.2 (HT.out _ B2.out)).mono ?_
    rintro e w3 ⟨bm, rfl, hbm, hm3, hb3⟩
    have HX3 : Hid (BoxV w3 (w.heap.size + 1) [.bool false]) := HX2.out.below hb3
    have HQ3 : Hid (BoxV w3 w.heap.size [.slice pr n capr]) := HQ2.out.below hb3
    have HF3 : Hid (BoxV w3 w1.heap.size [.int .i64 yid, .int .i64 ypa, .string ysc, .string yho, .int .i64 ypo, .string ypt, .bool ysb, .bool yfl, .int .i64 ytc]) := HF2.out.below hb3
    have B3 : Hid (Below w.heap.size w w3) := B2.out.trans (hb3.mono B2.out.size)
    have HM3 : Hid (TreeIs w3 bm 10 L) := hm3
    have hx2 := HX2.out.1
    have hf2 := HF2.out.1
    clear hb3 hm3 HX2 HQ2 HF2 B2 HT
    gi_wp2_with fail
    refine ⟨trivial, ?_⟩
    refine (callsIn_wide.2 (outward_any bm id _)).mono ?_
    rintro e w4 ⟨rfl, rfl⟩
    gi_wp2_with fail
    obtain ⟨W4, hW4⟩ : ∃ W4, W4 = (w3.alloc (.cells #[.map (some bm)] 90)).alloc (.cells #[.int .i64 id] 2) := ⟨_, rfl⟩
    rw [← hW4]
    have hb4 : Below w3.heap.size w3 W4 := by rw [hW4]; exact ((Below.refl _ _).alloc (Nat.le_refl _) _).alloc (by simp) _
    have z4 : W4.heap.size = w3.heap.size + 1 + 1 := by rw [hW4]; simp
    have ht4 : W4.cell? ⟨w3.heap.size, 0, none⟩ = some (.map (some bm)) := by rw [hW4]; exact (cell_under9 _ _ _ _ (by simp)).trans (by simp)
    have hi4 : W4.cell? ⟨w3.heap.size + 1, 0, none⟩ = some (.int .i64 id) := by rw [hW4]; exact (World.cell?_alloc_at _ _ _ _ (by simp)).trans rfl
    have hX4 : BoxV W4 (w.heap.size + 1) [.bool false] := HX3.out.below hb4
    have hQ4 : BoxV W4 w.heap.size [.slice pr n capr] := HQ3.out.below hb4
    have hF4 : BoxV W4 w1.heap.size [.int .i64 yid, .int .i64 ypa, .string ysc, .string yho, .int .i64 ypo, .string ypt, .bool ysb, .bool yfl, .int .i64 ytc] := HF3.out.below hb4
    have hm4 : TreeIs W4 bm 10 L := HM3.out.below hb4
    have hB4 : Below w.heap.size w W4 := B3.out.trans (hb4.mono B3.out.size)
    have zx : w.heap.size + 1 < w3.heap.size := HX3.out.1
    have zf : w1.heap.size < w3.heap.size := HF3.out.1
    have zb : bm < w3.heap.size := HM3.out.lt
    have hL := HLr.out
    clear hW4 hb4 HX3 HQ3 HF3 HM3 B3 hbm z1 hx2 hf2
    generalize hqb : w.heap.size = qb at *
    generalize hrb : qb + 1 = rb at *
    generalize hfb : w1.heap.size = fb at *
    generalize hbt : w3.heap.size = bt at *
    generalize hbi : bt + 1 = bi at *
    refine wpIn_rangeFunc_ownH rfl (by omega) (gf := 90) (lb := #[.pointer (some ⟨bt, 0, none⟩), .pointer (some ⟨bi, 0, none⟩)]) rfl trivial (enters_of Tryd.func90 (by kernel_rfl) rfl)
      (outward_stopsR (6 - 1) (by omega) bt bi bm none L hL id i1 i2 W4 ht4 hi4 hm4 (by omega) (by omega) (fun e => by cases e) (fun e => by cases e) (fun r e => by cases e)) (fun h k => KpF.trans h k) (KpF.put (Nat.le_refl _)) (Below.refl _ _) (fun _ => rfl)
      (fun pre W => ((BoxV W rb [.bool false] ∧ BoxV W qb [.slice pr n capr] ∧ BoxV W fb [.int .i64 yid, .int .i64 ypa, .string ysc, .string yho, .int .i64 ypo, .string ypt, .bool ysb, .bool yfl, .int .i64 ytc]) ∧ W4.heap.size ≤ W.heap.size ∧ ∀ a ∈ pre, st a.1 = false) ∧ Below qb w W)
      (fun c pre W => (c = .ret ∧ BoxV W rb [.bool true] ∧ ∃ a ∈ pre, st a.1 = true) ∧ Below qb w W)
      (OwnFrom.and (Own.from (fun s X Y row hs hg hr => ⟨⟨hs.1.1.kept hg hr, hs.1.2.1.kept hg hr, hs.1.2.2.kept hg hr⟩, Nat.le_trans hs.2.1 hg.size, hs.2.2⟩) _) (ownFrom_below (Nat.le_of_eq hqb.symm) (by omega)))
      (fun c => OwnFrom.and (Own.from (fun s X Y row hs hg hr => ⟨hs.1, hs.2.1.kept hg hr, hs.2.2⟩) _) (ownFrom_below (Nat.le_of_eq hqb.symm) (by omega)))
      ⟨⟨⟨hX4, hQ4, hF4⟩, Nat.le_refl _, fun a h => absurd h (by simp)⟩, hB4⟩
      (fun x a' W => ∃ Bx, W4.heap.size ≤ Bx ∧ BoxV W Bx (frVals x.1) ∧ a' = { tmps := #[v, .slice pr n capr, .int .i64 id, undef, .pointer (some ⟨qb, 0, none⟩), undef, .pointer (some ⟨rb, 0, none⟩), .pointer (some ⟨fb, 0, none⟩), .bool true, .pointer (some ⟨Bx, 0, none⟩), .tuple #[.agg #[.int .i64 yid, .int .i64 ypa, .string ysc, .string yho, .int .i64 ypo, .string ypt, .bool ysb, .bool yfl, .int .i64 ytc], .bool true], v, .int .i64 id, .tuple #[.agg #[.int .i64 yid, .int .i64 ypa, .string ysc, .string yho, .int .i64 ypo, .string ypt, .bool ysb, .bool yfl, .int .i64 ytc], .bool true], .agg #[.int .i64 yid, .int .i64 ypa, .string ysc, .string yho, .int .i64 ypo, .string ypt, .bool ysb, .bool yfl, .int .i64 ytc], .bool true, .bool true, .bool false, .bool false, .slice pr n capr, .bool true, .bool false, .bool false, v, .map (some bm), .int .i64 id, .func (.func 90) #[] #[.pointer (some ⟨bt, 0, none⟩), .pointer (some ⟨bi, 0, none⟩)], frV x.1, undef, undef, undef, undef, undef, undef, undef], defers := [] })
      (fun x a' s X Y row hs hg hr => by obtain ⟨Bx, h1, h2, h3⟩ := hs; exact ⟨Bx, h1, h2.kept hg (fun r e => (hr r e).2), h3⟩) ?assign ?body ?done ?stop
    case assign =>
      rintro l pre x W K ⟨⟨⟨h1, h2, h2'⟩, hz, hp⟩, h3⟩ hK
      have hx := boxV_new W (frVals x.1) 60
      unfold frVals frV at *
      dsimp only at *
      gi_wp2
      exact hK _ _ ((KeepsOthers.alloc _ _).from _) (KpF.of_below ((Below.refl _ _).alloc (Nat.le_refl _) _)) ⟨⟨⟨h1.alloc _, h2.alloc _, h2'.alloc _⟩, by simp; omega, hp⟩, h3.alloc (Nat.le_of_lt h2.1) _⟩ ⟨W.heap.size, hz, hx, rfl⟩
    case body =>
      rintro l pre x a' W hl ⟨r, hr⟩ ⟨⟨⟨h1, h2, h2'⟩, hz, hp⟩, h3⟩ ⟨Bx, hBx, bX, rfl⟩ hlt
      have KS : Hid (Calls Tryd.prog 72 #[.slice pr n capr, .agg #[.string x.1.sc, .string x.1.ho, .int .i64 x.1.po, .string x.1.pt], .agg #[.string ysc, .string yho, .int .i64 ypo, .string ypt]] W fun e w' => e = .returned (.bool (!(st x.1))) ∧ Below W.heap.size W w') := KS1.out x.1 x.2 W h3
      have H1 : Hid (BoxV W rb [.bool false]) := h1
      have H2 : Hid (BoxV W qb [.slice pr n capr]) := h2
      have H4 : Hid (BoxV W fb [.int .i64 yid, .int .i64 ypa, .string ysc, .string yho, .int .i64 ypo, .string ypt, .bool ysb, .bool yfl, .int .i64 ytc]) := h2'
      have H3 : Hid (Below qb w W) := h3
      have HP : Hid (∀ a ∈ pre, st a.1 = false) := hp
      have HZ : Hid (W4.heap.size ≤ W.heap.size) := hz
      have HXst : Hid (∀ b, st x.1 = b → ∀ a ∈ pre ++ [x], a ∈ pre ∨ st a.1 = b) := fun b h a ha => by
        rcases List.mem_append.1 ha with ha | ha
        · exact .inl ha
        · rw [List.mem_singleton] at ha; subst ha; exact .inr h
      have r0 : W.cell? ⟨qb, 0, none⟩ = some (.slice pr n capr) := h2.at (i := 0) rfl
      have x2 : W.cell? ⟨Bx, 2, none⟩ = some (.string x.1.sc) := bX.at (i := 2) rfl
      have x3 : W.cell? ⟨Bx, 3, none⟩ = some (.string x.1.ho) := bX.at (i := 3) rfl
      have x4 : W.cell? ⟨Bx, 4, none⟩ = some (.int .i64 x.1.po) := bX.at (i := 4) rfl
      have x5 : W.cell? ⟨Bx, 5, none⟩ = some (.string x.1.pt) := bX.at (i := 5) rfl
      have y2 : W.cell? ⟨fb, 2, none⟩ = some (.string ysc) := h2'.at (i := 2) rfl
      have y3 : W.cell? ⟨fb, 3, none⟩ = some (.string yho) := h2'.at (i := 3) rfl
      have y4 : W.cell? ⟨fb, 4, none⟩ = some (.int .i64 ypo) := h2'.at (i := 4) rfl
      have y5 : W.cell? ⟨fb, 5, none⟩ = some (.string ypt) := h2'.at (i := 5) rfl
      clear h1 h2 h2' h3 hp hz hr hlt bX
      gi_wp2_with fail
      refine ⟨trivial, ?_⟩
      refine (CallsIn.inRound l (callsIn_wide.2 KS.out)).mono ?_
      rintro e w5 ⟨rfl, hb5⟩
      have HB5 : Hid (Below W.heap.size W w5) := hb5
      have b0 : w5.cell? ⟨rb, 0, none⟩ = some (.bool false) := (H1.out.below hb5).at (i := 0) rfl
      have bf : w5.frozen? ⟨rb, 0, none⟩ = false := (H1.out.below hb5).free (i := 0) rfl
      have HK5 : Hid (KeepsFrom W4.heap.size W w5) := ⟨hb5.size, fun k o _ hk _ => by rw [hb5.block k (Array.getElem?_eq_some_iff.1 hk).1]; exact hk⟩
      have H3' : Hid (Below qb w w5) := H3.out.trans (hb5.mono (Nat.le_of_lt H2.out.1))
      clear hb5 x2 x3 x4 x5 y2 y3 y4 y5 r0 KS
      cases hsx : st x.1 with
      | true =>
        gi_wp2
        exact ⟨HK5.out.trans ((KeepsOthers.setCell _ _ _).from _), ⟨rfl, (H1.out.below HB5.out).set 0 (by simp) _, x, by simp, hsx⟩, H3'.out.setCell (p := ⟨rb, 0, none⟩) (show qb ≤ rb from by omega) _⟩
      | false =>
        gi_wp2
        exact ⟨HK5.out, KpF.of_below HB5.out, ⟨⟨H1.out.below HB5.out, H2.out.below HB5.out, H4.out.below HB5.out⟩, Nat.le_trans HZ.out HB5.out.size, fun a ha => (HXst.out false hsx a ha).elim (fun h => HP.out a h) (fun h => h)⟩, H3'.out⟩
    case done =>
      rintro D ys W hD hys ⟨⟨⟨h1, h2, h2'⟩, hz, hp⟩, h3⟩ hK
      have HR : Hid (thirdF n f L id = false) := by
        show _ = _
        rw [HQ.out, ← hys, List.any_eq_false]
        intro a ha
        obtain ⟨z, hz1, rfl⟩ := List.mem_map.1 ha
        rw [hp z hz1]; decide
      have HK : Hid (W.heap[D]? = some (.deferred (some []))) := hK
      have H1 : Hid (BoxV W rb [.bool false]) := h1
      have H3 : Hid (Below qb w W) := h3
      have b0 : W.cell? ⟨rb, 0, none⟩ = some (.bool false) := h1.at (i := 0) rfl
      have bf : W.frozen? ⟨rb, 0, none⟩ = false := h1.free (i := 0) rfl
      clear hK h3 h1 h2 h2' hp hys hz
      gi_wp2
      obtain ⟨Wz, hWz⟩ : ∃ Wz, Wz = W.setCell ⟨rb, 0, none⟩ (.bool false) := ⟨_, rfl⟩
      rw [← hWz]
      have hKz : Wz.heap[D]? = some (.deferred (some [])) := by rw [hWz]; exact (KeepsOthers.setCell _ _ _).same D _ HK.out rfl
      have hZ : BoxV Wz rb [.bool false] := by rw [hWz]; exact H1.out.set 0 (by simp) _
      have hBz : Below qb w Wz := by rw [hWz]; exact H3.out.setCell (p := ⟨rb, 0, none⟩) (show qb ≤ rb from by omega) _
      clear hWz
      have hQ : BoxV (Wz.putObj D (.deferred none)) rb [.bool false] := hZ.kept (grownBy_putObj' Wz D _) (fun r e => by cases e; exact ⟨_, hKz, rfl⟩)
      have q0 : (Wz.putObj D (.deferred none)).cell? ⟨rb, 0, none⟩ = some (.bool false) := hQ.at (i := 0) rfl
      refine ⟨by simp, .inl ⟨_, _, rfl, run_takeDeferred hKz, ?_⟩⟩
      exact ⟨.bool false, by simp [results, Tryd.results37, go_sem, q0], by rw [HR.out], by rw [hqb]; exact hBz.trans (belowK_b (w := W4) (by omega) Wz D _ _ hD hKz rfl rfl)⟩
    case stop =>
      rintro D c pre W hD hpre ⟨⟨rfl, h1, a, ha, hsa⟩, h3⟩ hK
      have HR : Hid (thirdF n f L id = true) := by
        show _ = _
        rw [HQ.out, List.any_eq_true]
        exact ⟨a.1, hpre.subset (List.mem_map.2 ⟨a, ha, rfl⟩), hsa⟩
      have hQ : BoxV (W.putObj D (.deferred none)) rb [.bool true] := h1.kept (grownBy_putObj' W D _) (fun r e => by cases e; exact ⟨_, hK, rfl⟩)
      have q0 : (W.putObj D (.deferred none)).cell? ⟨rb, 0, none⟩ = some (.bool true) := hQ.at (i := 0) rfl
      gi_wp2
      refine ⟨by simp, .inl ⟨_, _, rfl, run_takeDeferred hK, ?_⟩⟩
      exact ⟨.bool true, by simp [results, Tryd.results37, go_sem, q0], by rw [HR.out], by rw [hqb]; exact h3.trans (belowK_b (w := W4) (by omega) W D _ _ hD hK rfl rfl)⟩
end Go.Proofs.YtnpaekjiafaahaaDoor

/- The law FnExactFramesRight, walked. -/
namespace Go.Proofs.YtnpaekjiafaahaaDoor
open Go.RowKit

/-- the texts of frames are no longer than what is asked -/
def szF9 (L : List Fr) : Prop := ∀ i, i < L.length → (atF L i).sc.size + (atF L i).ho.size + (atF L i).pt.size ≤ 1048576
set_option maxRecDepth 10000 in
set_option maxHeartbeats 4000000 in
theorem lawFramesRight_any (a : Option Addr) (cap : Nat) (L : List Fr) (w : World) (hG : MaxI w) (hr : FrRow w a L) (hn : L.length ≤ maxLen) :
    Calls Tryd.prog 3 #[.slice a L.length cap] w fun e w' => e = .returned (.bool true) ∧ Below w.heap.size w w' := by
  have HR : Hid (FrRow w a L) := hr
  have HG : Hid (MaxI w) := hG
  clear hr hG
  go_enter Tryd.func3, Tryd.ntmps3
  go_wp2_with fail
  refine (szFrameS_any a cap L 1048576 _ HR.out hn (by decide) (by decide)).mono ?_
  rintro e w0 ⟨⟨r, rfl, hr⟩, hb0⟩
  have B0 : Hid (Below w.heap.size w w0) := hb0
  clear hb0
  rcases hr with hr | ⟨r0, r1, hl, hf⟩
  · go_wp2
    go_ret
    exact ⟨rfl, B0.out⟩
  have q : decide (r < 0) = false := by rw [decide_eq_false_iff_not]; omega
  have HF : Hid (szF9 L) := hf
  clear hf r0 r1
  go_wp2_with fail
  refine (toFrameS_any a cap L _ (HR.out.below B0.out) hl).mono ?_
  rintro e w1 ⟨v1, rfl, s1, hb1⟩
  have B1 : Hid (Below w.heap.size w w1) := B0.out.trans (hb1.mono B0.out.size)
  have KS : Hid (Calls Tryd.prog 11 #[v1] w1 fun e w' => e = .returned (.bool (framesB L)) ∧ Below w1.heap.size w1 w') := specFrames_any v1 L _ w1 s1 hl
  have KI : Hid (∀ (v : Value) (B : Nat) (W : World), Below w.heap.size w W → SliceF W B v L → Calls Tryd.prog 13 #[v] W fun e w' => e = .returned (.bool (framesB L)) ∧ Below W.heap.size W w') := fun v B W a b => framesRight_any v L B W (HG.out.on a) b hl (fun i hi => by have := HF.out i hi; omega)
  clear s1 hb1 HG HF
  generalize framesB L = d at *
  go_wp2_with fail
  refine KS.out.mono ?_
  rintro e w2 ⟨rfl, hb2⟩
  have B2 : Hid (Below w.heap.size w w2) := B1.out.trans (hb2.mono B1.out.size)
  clear hb2 KS
  go_wp2_with fail
  refine (toFrameS_any a cap L _ (HR.out.below B2.out) hl).mono ?_
  rintro e w4 ⟨v4, rfl, s4, hb4⟩
  have B4 : Hid (Below w.heap.size w w4) := B2.out.trans (hb4.mono B2.out.size)
  have S4 : Hid (SliceF w4 w2.heap.size v4 L) := s4
  clear hb4 s4
  go_wp2_with fail
  refine (KI.out v4 _ w4 B4.out S4.out).mono ?_
  rintro e w5 ⟨rfl, hb5⟩
  have B5 : Hid (Below w.heap.size w w5) := B4.out.trans (hb5.mono B4.out.size)
  have S5 : Hid (SliceF w5 w2.heap.size v4 L) := S4.out.below hb5
  clear hb5
  cases d
  all_goals
    go_wp2_with fail
    refine (toFrameS_any a cap L _ (HR.out.below B5.out) hl).mono ?_
    rintro e w7 ⟨v7, rfl, s7, hb7⟩
    have S7 := S5.out.below hb7
    have B7 : Hid (Below w.heap.size w w7) := B5.out.trans (hb7.mono B5.out.size)
    clear hb7
    go_wp2_with fail
    refine (eqFrameS_any v4 v7 L _ _ _ S7 s7 hl).mono ?_
    rintro e w8 ⟨rfl, hb8⟩
    go_wp2
    go_ret
    exact ⟨rfl, B7.out.trans (hb8.mono B7.out.size)⟩
end Go.Proofs.YtnpaekjiafaahaaDoor

/- A slice of texts that came in, as a law's frame opens it. -/
namespace Go.Proofs.YtnpaekjiafaahaaDoor
open Go.ChangeShapes Go.WideShapes Go.ChangeAt Go.RowKit

theorem strRow_of {H : Type} {enc : TypeId × Value → H} {W : World} {a : Option Addr} {len cap : Nat} {d : DataW H} {p : List MemPlace}
    (h : ∃ fuel, DataW.trod enc Tryd.prog W 0 (fun _ => true) true fuel 41 (Value.slice a len cap).cells.toList = some (d, p)) : (∃ f, StrRow W a len f) ∧ len ≤ maxLen := by
  obtain ⟨fuel, hf⟩ := h
  rcases Go.Deep.open_strs Tryd.underlying41 Tryd.underlying9 (by kernel_rfl) hf with ⟨hcs, _⟩ | ⟨x, l, c, m, f, hcs, _, hl, hm, hmm, _, hcell⟩
  · simp [Value.cells] at hcs
    obtain ⟨rfl, rfl, rfl⟩ := hcs
    exact ⟨⟨fun _ => ⟨#[]⟩, fun i hi => absurd hi (by omega)⟩, Nat.zero_le _⟩
  · simp [Value.cells] at hcs
    obtain ⟨rfl, rfl, rfl⟩ := hcs
    refine ⟨⟨f, fun i hi => ?_⟩, by omega⟩
    have hmc : m = cap := by simpa using hmm
    obtain ⟨hc, hs⟩ := hcell i (by omega)
    refine ⟨x, rfl, ?_, hc, hs⟩
    have hb : (x.add i).block < W.heap.size := by
      by_cases h : (x.add i).block < W.heap.size
      · exact h
      · exfalso
        simp [World.cell?, Array.getElem?_eq_none (show W.heap.size ≤ (x.add i).block by omega)] at hc
    have e : (x.add i).block = x.block := by unfold Addr.add; split <;> rfl
    rw [e] at hb; exact hb
end Go.Proofs.YtnpaekjiafaahaaDoor

/- The law FnExactFrameThird, walked. Written by lawthird.py. -/
namespace Go.Proofs.YtnpaekjiafaahaaDoor
open Go.RowKit

set_option maxRecDepth 10000 in
set_option maxHeartbeats 8000000 in
theorem lawFrameThird_any (a : Option Addr) (cap : Nat) (L : List Fr) (ra : Option Addr) (n rcap : Nat) (f : Nat → ByteArray) (id : Int) (w : World) (hG : MaxI w) (hr : FrRow w a L) (hn : L.length ≤ maxLen) (hs : StrRow w ra n f) (hm : n ≤ maxLen) (hid : (Lit.int .i64 id).wf = true) :
    Calls Tryd.prog 9 #[.slice a L.length cap, .slice ra n rcap, .int .i64 id] w fun e w' => e = .returned (.bool true) ∧ Below w.heap.size w w' := by
  have HR : Hid (FrRow w a L) := hr
  have HS : Hid (StrRow w ra n f) := hs
  have HG : Hid (MaxI w) := hG
  have HI : Hid (-9223372036854775808 ≤ id ∧ id ≤ 9223372036854775807) := fr_wf hid
  clear hr hG hid hs
  go_enter Tryd.func9, Tryd.ntmps9
  go_wp2_with fail
  refine (szFrameS_any a cap L 1048576 _ HR.out hn (by decide) (by decide)).mono ?_
  rintro e w0 ⟨⟨r, rfl, hr⟩, hb0⟩
  have B0 : Hid (Below w.heap.size w w0) := hb0
  clear hb0
  rcases hr with hr | ⟨r0, r1, hl, hf⟩
  · go_wp2
    go_ret
    exact ⟨rfl, B0.out⟩
  have q : decide (r < 0) = false := by rw [decide_eq_false_iff_not]; omega
  have HF : Hid (szF9 L) := hf
  clear hf
  go_wp2_with fail
  refine (szStringS_any ra n rcap f r _ (HS.out.below B0.out) hm r0 r1).mono ?_
  rintro e w0' ⟨⟨s, rfl, hs⟩, hw0⟩
  have HW0 : Hid (w0' = w0) := hw0
  subst hw0
  rcases hs with hs | ⟨s0, s1, hl2, hf2⟩
  · go_wp2
    go_ret
    exact ⟨rfl, B0.out⟩
  have qs : decide (s < 0) = false := by rw [decide_eq_false_iff_not]; omega
  have hl3 : n ≤ 1048576 := by omega
  have HF2 : Hid (∀ i, i < n → (f i).size ≤ 1048576) := fun i hi => by have := hf2 i hi; omega
  clear hf2 r0 r1 s0 s1 hl2 HW0
  have KI : Hid (∀ (v rv : Value) (B B' : Nat) (W : World), Below w.heap.size w W → SliceF W B v L → SliceS W B' rv n f → Calls Tryd.prog 37 #[v, rv, .int .i64 id] W fun e w' => e = .returned (.bool (thirdF n f L id)) ∧ Below W.heap.size W w') := fun v rv B B' W hb h1 h2 => frameThird_any v rv L B B' n f id W (HG.out.on hb) h1 hl (fun i hi => by have := HF.out i hi; omega) h2 hl3 HF2.out HI.out.1 HI.out.2
  have KS : Hid (∀ (v rv : Value) (B B' : Nat) (W : World), SliceF W B v L → SliceS W B' rv n f → Calls Tryd.prog 36 #[v, rv, .int .i64 id] W fun e w' => e = .returned (.bool (thirdF n f L id)) ∧ Below W.heap.size W w') := fun v rv B B' W h1 h2 => specFrameThird_any v rv L B B' n f id W h1 hl h2 hl3 HF2.out
  clear HG HI HF HF2
  generalize thirdF n f L id = d at *
  go_wp2_with fail
  refine (toFrameS_any a cap L _ (HR.out.below B0.out) hl).mono ?_
  rintro e w1 ⟨v1, rfl, s1, hb1⟩
  have B1 : Hid (Below w.heap.size w w1) := B0.out.trans (hb1.mono B0.out.size)
  obtain ⟨b1, s1⟩ : ∃ b, SliceF w1 b v1 L := ⟨_, s1⟩
  have S1 : Hid (SliceF w1 b1 v1 L) := s1
  clear s1 hb1 B0
  go_wp2_with fail
  refine (toStringS_any ra n rcap f _ (HS.out.below B1.out) hl3).mono ?_
  rintro e w2 ⟨v2, rfl, s2, hb2⟩
  have B2 : Hid (Below w.heap.size w w2) := B1.out.trans (hb2.mono B1.out.size)
  have S12 : Hid (SliceF w2 b1 v1 L) := S1.out.below hb2
  obtain ⟨b2, s2⟩ : ∃ b, SliceS w2 b v2 n f := ⟨_, s2⟩
  have S2 : Hid (SliceS w2 b2 v2 n f) := s2
  clear s2 hb2 B1 S1
  go_wp2_with fail
  refine (KS.out v1 v2 b1 b2 _ S12.out S2.out).mono ?_
  rintro e w3 ⟨rfl, hb3⟩
  have B3 : Hid (Below w.heap.size w w3) := B2.out.trans (hb3.mono B2.out.size)
  clear hb3 B2 S12 S2 KS
  go_wp2_with fail
  refine (toFrameS_any a cap L _ (HR.out.below B3.out) hl).mono ?_
  rintro e w4 ⟨v4, rfl, s4, hb4⟩
  have B4 : Hid (Below w.heap.size w w4) := B3.out.trans (hb4.mono B3.out.size)
  obtain ⟨b4, s4⟩ : ∃ b, SliceF w4 b v4 L := ⟨_, s4⟩
  have S4 : Hid (SliceF w4 b4 v4 L) := s4
  clear s4 hb4 B3
  go_wp2_with fail
  refine (toStringS_any ra n rcap f _ (HS.out.below B4.out) hl3).mono ?_
  rintro e w5 ⟨v5, rfl, s5, hb5⟩
  have B5 : Hid (Below w.heap.size w w5) := B4.out.trans (hb5.mono B4.out.size)
  have S45 : Hid (SliceF w5 b4 v4 L) := S4.out.below hb5
  obtain ⟨b5, s5⟩ : ∃ b, SliceS w5 b v5 n f := ⟨_, s5⟩
  have S5 : Hid (SliceS w5 b5 v5 n f) := s5
  clear s5 hb5 B4 S4
  go_wp2_with fail
  refine (KI.out v4 v5 b4 b5 _ B5.out S45.out S5.out).mono ?_
  rintro e w6 ⟨rfl, hb6⟩
  have B6 : Hid (Below w.heap.size w w6) := B5.out.trans (hb6.mono B5.out.size)
  have S46 : Hid (SliceF w6 b4 v4 L) := S45.out.below hb6
  have S6 : Hid (SliceS w6 b5 v5 n f) := S5.out.below hb6
  clear hb6 B5 S45 S5 KI
  cases d
  all_goals
    go_wp2_with fail
    refine (toFrameS_any a cap L _ (HR.out.below B6.out) hl).mono ?_
    rintro e w7 ⟨v7, rfl, s7, hb7⟩
    have S7 := S46.out.below hb7
    have B7 : Hid (Below w.heap.size w w7) := B6.out.trans (hb7.mono B6.out.size)
    have S67 : Hid (SliceS w7 b5 v5 n f) := S6.out.below hb7
    clear hb7
    go_wp2_with fail
    refine (eqFrameS_any v4 v7 L _ _ _ S7 s7 hl).mono ?_
    rintro e w8 ⟨rfl, hb8⟩
    have B8 : Hid (Below w.heap.size w w8) := B7.out.trans (hb8.mono B7.out.size)
    have S68 : Hid (SliceS w8 b5 v5 n f) := S67.out.below hb8
    clear hb8 S7 s7 S67
    go_wp2_with fail
    refine (toStringS_any ra n rcap f _ (HS.out.below B8.out) hl3).mono ?_
    rintro e w9 ⟨v9, rfl, s9, hb9⟩
    have B9 : Hid (Below w.heap.size w w9) := B8.out.trans (hb9.mono B8.out.size)
    have S69 := S68.out.below hb9
    clear hb9 S68
    go_wp2_with fail
    refine (eqStringS_any v5 v9 n _ _ f _ S69 s9 hl3).mono ?_
    rintro e w10 ⟨rfl, hb10⟩
    go_wp2
    go_ret
    exact ⟨rfl, B9.out.trans (hb10.mono B9.out.size)⟩
end Go.Proofs.YtnpaekjiafaahaaDoor

/- The lifting of a law's walk to a row that lists package-level variables, the world's shape kept; what the shape and the list give a walk. -/
namespace Go.Proofs.YtnpaekjiafaahaaDoor
open Go.RowKit

theorem Ld.own : ownKnob Tryd.prog.godebug = none := by kernel_rfl
theorem Ld.laidOut : laidOutB Tryd.prog = true := by kernel_rfl
set_option maxRecDepth 10000 in
theorem lift_laid {H : Type} {enc : TypeId × Value → H} {os : Os} {f : FuncId} {fn : Func} {s : ChangeSpec} {X : World → Prop} (hX : ∀ (w w' : World), w.heap = w'.heap → X w → X w')
    (started : os.Started) (noInit : Tryd.prog.inits.idxOf? f = none) (hfn : Tryd.prog.funcs[f]? = some fn)
    (start : ∃ (w : World) (tape : Tape) (i : Input), w.os = os ∧ (w.forCall tape i).Shaped Tryd.prog ∧ i.vars = [] ∧ Input.okWide Tryd.prog (w.forCall tape i) .any w.heap.size f i ∧
      ((s.pre enc Tryd.prog fn [] false (w.forCall tape i).memory i.args ∧ X (w.forCall tape i).memory) ∧ sizedMet enc Tryd.prog fn (OpenSpec.ofChange s) false (w.forCall tape i).memory i.args) ∧ Assume.holds {} Tryd.prog (lone (Frame.enter Tryd.prog f i.args .normal) [] (w.forCall tape i)))
    (walk : ∀ (W : World) (base : Nat) (args : Array Value) (ds gs : List (DataW H)) (before : List MemPlace),
      (∀ (j : Nat) t v, fn.params[j]? = some t → args[j]? = some v → Value.okWide Tryd.prog W .any base t v) →
      DataW.Whole enc Tryd.prog fn.params.toList s.vars false W args.toList ds gs before → X W → W.ShapedOpen Tryd.prog →
      Calls Tryd.prog f args W fun e W' => ∃ v, e = .returned v ∧ s.post enc Tryd.prog fn false true false false W args v W') :
    ReturnsInHanded {} Tryd.checked os f .any (fun w args => (s.pre enc Tryd.prog fn [] false w args ∧ X w) ∧ sizedMet enc Tryd.prog fn (OpenSpec.ofChange s) false w args) (s.post enc Tryd.prog fn false true false false) := by
  refine returnsInHanded_of_calls (C := Tryd.checked) Ld.own started noInit start ?_
  intro w tape i _ hsh _ hok hpre _
  obtain ⟨_, _, _, fn2, hfn2, _, _, _, _, hval⟩ := hok
  obtain rfl : fn2 = fn := Option.some.inj (hfn2.symm.trans hfn)
  obtain ⟨⟨⟨ds, gs, before, hw, _⟩, hx⟩, _⟩ := hpre
  have hw2 := DataW.Whole.of_heap (w' := w.forCall tape i) (by rfl) hw
  refine (walk (w.forCall tape i) w.heap.size i.args ds gs before hval hw2 (hX _ _ (by rfl) hx) hsh).mono fun e W' ⟨v, he, hp⟩ => ?_
  subst he
  exact ChangeSpec.post_blind hp
set_option maxRecDepth 10000 in
theorem maxI_of_shape {W : World} (h : W.ShapedOpen Tryd.prog) : MaxI W := Tryd.lays146.s1_3 W h
end Go.Proofs.YtnpaekjiafaahaaDoor
