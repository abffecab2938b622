/- 11 of this claim's texts, one behind the other. -/
import Derived.Test.YtclpamjgglfljaaDoorPart5
import Derived.RangeFuncBox
import Derived.RangeFuncFrom
import Derived.RangeFuncWrites
import Derived.Test.YtclpamjgglfljaaDoorPart3
import Derived.Test.YtclpamjgglfljaaDoorPart4
import Derived.Test.YtclpamjgglfljaaDoorPart1
import Derived.Deep.RegionHeld3
import Derived.Deep.DeepCutAuto
import Derived.Handed
import Derived.Lay
import Derived.MakeChecks
import Derived.Lib.LaidTab
import Derived.Stop.LaidErr
/- The walk of the program's shutWith: a range over the iterator in each round of a plain loop; the marks that its rounds leave. -/
namespace Go.Proofs.YtclpamjgglfljaaDoor
open Go.RowKit Go.Maps Go.Shelf
attribute [local go_sem] Oper.semAt_some

/-- whether a frame, or one that it is in, is among these -/
def takesF (L : List Fr) (I : List Int) (id : Int) : Bool := (wayF L id).any (fun g => I.contains g.id)
/-- the Ids of those of the first k that are shut -/
def shutI (L : List Fr) (I : List Int) (k : Nat) : List Int := ((L.take k).filter (fun f => takesF L I f.id)).map (fun f => f.id)
theorem shutI_len (L : List Fr) (I : List Int) (k : Nat) : (shutI L I k).length ≤ k := by
  unfold shutI
  rw [List.length_map]
  exact Nat.le_trans (List.length_filter_le _ _) (by rw [List.length_take]; omega)
theorem shutI_step {L : List Fr} {k : Nat} (hk : k < L.length) (I : List Int) : shutI L I (k + 1) = if takesF L I (atF L k).id = true then shutI L I k ++ [(atF L k).id] else shutI L I k := by
  unfold shutI
  rw [List.take_succ_eq_append_getElem hk, List.filter_append, ← atF_get hk, List.map_append]
  cases h : takesF L I (atF L k).id with
  | true => rw [if_pos rfl, List.filter_cons_of_pos (p := fun f : Fr => takesF L I f.id) h, List.filter_nil]; rfl
  | false => rw [if_neg (by decide), List.filter_cons_of_neg (p := fun f : Fr => takesF L I f.id) (by rw [h]; decide), List.filter_nil, List.map_nil, List.append_nil]
/-- the mark of one round's loop -/
def markD (D : Nat) : Deferred := { target := .collected D, args := #[] }
/-- the blocks of the marks: none twice, each as it was laid -/
def MarksI (Ds : List Nat) (w : World) : Prop := Ds.Nodup ∧ ∀ D ∈ Ds, w.heap[D]? = some (.deferred (some []))
theorem MarksI.keep {Ds : List Nat} {W W' : World} (h : MarksI Ds W) (hk : KeepsFrom 0 W W') : MarksI Ds W' :=
  ⟨h.1, fun D hD => hk.same D _ (Nat.zero_le _) (h.2 D hD) rfl⟩
theorem MarksI.below {Ds : List Nat} {W W' : World} (h : MarksI Ds W) (hb : Below W.heap.size W W') : MarksI Ds W' :=
  ⟨h.1, fun D hD => (hb.block D (Array.getElem?_eq_some_iff.1 (h.2 D hD)).1).trans (h.2 D hD)⟩
theorem MarksI.cons {Ds : List Nat} {W : World} (h : MarksI Ds W) {D : Nat} (hD : W.heap[D]? = some (.deferred (some []))) (hn : ∀ E ∈ Ds, E < D) : MarksI (D :: Ds) W :=
  ⟨List.nodup_cons.2 ⟨fun e => absurd (hn D e) (Nat.lt_irrefl _), h.1⟩, fun E hE => by
    rcases List.mem_cons.1 hE with rfl | hE
    · exact hD
    · exact h.2 E hE⟩
theorem MarksI.lt {Ds : List Nat} {W : World} (h : MarksI Ds W) : ∀ D ∈ Ds, D < W.heap.size := fun D hD => (Array.getElem?_eq_some_iff.1 (h.2 D hD)).1
theorem boxed_below {W W' : World} {B : Nat} {t : TypeId} {v : Value} (h : Boxed W B t v) (hb : Below W.heap.size W W') : Boxed W' B t v := (hb.block B h.lt).trans h
theorem row_cells {w w' : World} {base n size : Nat} {e : TypeId} {v : Value} {xs : List Value} (h : w.ownsRow base e size v n xs)
    (hc : ∀ (k : Nat) (o : Obj), w.heap[k]? = some o → o.isCells = true → w'.heap[k]? = some o) : w'.ownsRow base e size v n xs := by
  obtain ⟨h1, h2⟩ := h
  refine ⟨h1, ?_⟩
  rcases h2 with h2 | ⟨g, cap, cur, rfl, hg, hh, r⟩
  · exact .inl h2
  · exact .inr ⟨g, cap, cur, rfl, hg, hc g _ hh rfl, r⟩
/-- a frame on its way out passes the marks -/
theorem leavesM_marks {F : Fence} {n : Nat} {P : Program} {fn : Func} {tmps : Array Value} {R : Ending → World → Prop} (B : Nat) : ∀ (Ds : List Nat) (W : World), MarksI Ds W → (∀ D ∈ Ds, B ≤ D) →
    (∀ W', Below B W W' → (∀ (k : Nat) (o : Obj), W.heap[k]? = some o → o.isCells = true → W'.heap[k]? = some o) → LeavesIn F n P fn tmps R [] .returning W') →
    LeavesInM F n P fn tmps R (Ds.map markD) .returning W
  | [], W, _, _, h => h W (Below.refl _ _) (fun _ _ h _ => h)
  | D :: Ds, W, hm, hB, h => by
    obtain ⟨hn, hh⟩ := hm
    have hD := hh D (List.mem_cons_self ..)
    obtain ⟨hn1, hn2⟩ := List.nodup_cons.1 hn
    refine ⟨by simp, .inl ⟨D, W.putObj D (.deferred none), rfl, run_takeDeferred hD, leavesM_marks B Ds _ ⟨hn2, fun E hE => ?_⟩ (fun E hE => hB E (List.mem_cons_of_mem _ hE)) fun W' hb hc => h W' ?_ ?_⟩⟩
    · rw [World.putObj_heap_other (fun e => hn1 (by rw [← show E = D from by first | exact e | exact e.symm]; exact hE))]
      exact hh E (List.mem_cons_of_mem _ hE)
    · exact Below.trans ((Below.refl B W).grown (grownBy_putObj' W D _) (by have := (Array.getElem?_eq_some_iff.1 hD).1; have := hB D (List.mem_cons_self ..); omega) (fun k e => by cases e; exact hB D (List.mem_cons_self ..))) hb
    · intro k o hk ho
      refine hc k o ?_ ho
      rw [World.putObj_heap_other (fun e => by
        have e' : k = D := by first | exact e | exact e.symm
        subst e'; rw [hD] at hk; cases hk; cases ho)]
      exact hk
theorem cellOne9 (W : World) (v : Value) (t : TypeId) : ∀ j u, [v][j]? = some u → (W.alloc (.cells #[v] t)).cell? ((⟨W.heap.size, 0, none⟩ : Addr).add j) = some u := cell_one9 W v t
set_option maxRecDepth 100000 in
set_option maxHeartbeats 16000000 in
theorem shutWith_any (v sv : Value) (L : List Fr) (I : List Int) (B Bs : Nat) (w : World) (hs : SliceF w B v L) (hL : framesB L = true) (hi9 : SliceN w Bs sv I) (hin : I.length ≤ 1048576) :
    Calls Tryd.prog 34 #[v, sv] w fun e w' => ∃ v', e = .returned v' ∧ w'.ownsRow w.heap.size 2 1 v' (shutI L I L.length).length (intsV (shutI L I L.length)) ∧ Below w.heap.size w w' := by
  have h10 := (framesB_parts hL).1
  obtain ⟨sp, scap, rfl⟩ : ∃ p c, sv = .slice p I.length c := by obtain ⟨p, c, e, -⟩ := hi9; exact ⟨p, c, e⟩
  have HT0 : Hid (∀ W, Below w.heap.size w W → Calls Tryd.prog 58 #[v] W fun e w' => ∃ bm, e = .returned (.map (some bm)) ∧ W.heap.size ≤ bm ∧ TreeIs w' bm 10 L ∧ Below W.heap.size W w') := fun W hb => treeOf_any v L B W (hs.below hb) hL
  have KC : Hid (∀ x W, Below w.heap.size w W → Calls Tryd.prog 56 #[(.slice sp I.length scap), .int .i64 x] W fun e w' => e = .returned (.bool (I.contains x)) ∧ w' = W) := fun x W hb => contains9_any (.slice sp I.length scap) I Bs x W (hi9.below hb) hin
  have HST : Hid (∀ k, k < L.length → shutI L I (k + 1) = if takesF L I (atF L k).id = true then shutI L I k ++ [(atF L k).id] else shutI L I k) := fun k hk => shutI_step hk I
  have HLE : Hid (∀ k, (shutI L I k).length ≤ k) := shutI_len L I
  have HID : Hid (∀ k, k < L.length → 1 ≤ (atF L k).id ∧ (atF L k).id ≤ 1000000) := fun k hk => (ids_of hL k hk).1
  have HL : Hid (framesB L = true) := hL
  obtain ⟨i0, hi, hy0, hy1, hy2⟩ := info_parts infoInt9
  obtain ⟨⟨q, cap, rfl, hg⟩, -⟩ := hs
  have HG : Hid (0 < L.length → ∃ g, q = some ⟨g, 0, none⟩ ∧ g < w.heap.size ∧ ∀ j, j < L.length → ∀ o, o < 9 → w.cell? ⟨g, j * 9 + o, none⟩ = some (frC (atF L j) o)) := fun h0 => by
    obtain ⟨g, e, -, hgw, hc⟩ := hg h0
    exact ⟨g, e, hgw, fun j hj o ho => (hc j hj o ho).1⟩
  have HX0 : Hid (Boxed (w.alloc (.cells #[(.slice sp I.length scap)] 58)) w.heap.size 58 (.slice sp I.length scap)) := Boxed.new _ _ _
  have HB0 : Hid (Below w.heap.size w (w.alloc (.cells #[(.slice sp I.length scap)] 58))) := (Below.refl _ _).alloc (Nat.le_refl _) _
  clear hg hi9 hL
  refine (callsIn_wide (n := 6)).1 ?_
  refine callsIn_of_wp_marks Tryd.func34 rfl trivial ?_ rfl
  simp only [Tryd.ntmps34, List.size_toArray, List.length_cons, List.length_nil, Nat.reduceAdd, Nat.reduceSub, Array.replicate_succ, Array.replicate_zero, List.push_toArray, List.append_toArray, List.nil_append, List.cons_append]
  gi_wp2_with fail
  refine ⟨trivial, ?_⟩
  refine (callsIn_wide.2 (HT0.out _ HB0.out)).mono ?_
  rintro e w1 ⟨bm, rfl, hbm, hm1, hb1⟩
  have HX1 : Hid (Boxed w1 w.heap.size 58 (.slice sp I.length scap)) := boxed_below HX0.out hb1
  have B1 : Hid (Below w.heap.size w w1) := HB0.out.trans (hb1.mono HB0.out.size)
  have HM1 : Hid (TreeIs w1 bm 10 L) := hm1
  clear hb1 hm1 HX0 HB0 HT0 hbm
  gi_wp2_with fail
  obtain ⟨W2, hW2⟩ : ∃ W2, W2 = w1.alloc (.cells #[.slice none 0 0] 58) := ⟨_, rfl⟩
  rw [← hW2]
  have A2 : Below w1.heap.size w1 W2 := by rw [hW2]; exact (Below.refl _ _).alloc (Nat.le_refl _) _
  have hsb2 : Boxed W2 w1.heap.size 58 (.slice none 0 0) := by rw [hW2]; exact Boxed.new _ _ _
  have hib2 : Boxed W2 w.heap.size 58 (.slice sp I.length scap) := boxed_below HX1.out A2
  have hm2 : TreeIs W2 bm 10 L := HM1.out.below A2
  have hB2 : Below w.heap.size w W2 := B1.out.trans (A2.mono B1.out.size)
  have zib : w.heap.size < w1.heap.size := HX1.out.lt
  clear hW2 A2 HX1 HM1 B1
  generalize hqb : w.heap.size = qb at *
  generalize hsbb : w1.heap.size = sb at *
  clear hsbb
  have HSZ : Hid (∀ X : World, Below qb w X → qb ≤ X.heap.size) := fun X h => by rw [← hqb]; exact h.size
  refine wpIn_loop (fun a wr => ∃ (k : Nat) (sl : Value) (Ds : List Nat) (u8 u15 u16 u17 u18 u19 u20 u21 u32 : Value), k ≤ L.length ∧ a = { tmps := #[.slice q L.length cap, (.slice sp I.length scap), undef, .pointer (some ⟨qb, 0, none⟩), .slice none 0 0, .map (some bm), .pointer (some ⟨sb, 0, none⟩), undef, u8, undef, .slice q L.length cap, .map (some bm), .slice q L.length cap, .int .i64 L.length, .int .i64 k, u15, u16, u17, u18, u19, u20, u21, undef, undef, undef, undef, undef, undef, undef, undef, undef, undef, u32, undef], defers := Ds.map markD } ∧
      (Boxed wr qb 58 (.slice sp I.length scap) ∧ Boxed wr sb 58 sl ∧ TreeIs wr bm 10 L) ∧ wr.ownsRow qb 2 1 sl (shutI L I k).length (intsV (shutI L I k)) ∧ MarksI Ds wr ∧ (∀ D ∈ Ds, qb ≤ D) ∧ Below qb w wr) (fun a _ => L.length - (intOf (a.tmps.getD 14 undef)).toNat) ?start ?round
  case start =>
    exact ⟨0, .slice none 0 0, [], undef, undef, undef, undef, undef, undef, undef, undef, undef, Nat.zero_le _, rfl, ⟨hib2, hsb2, hm2⟩, World.ownsRow_nil _ _ _ _, ⟨List.nodup_nil, fun D h => absurd h (by simp)⟩, fun D h => absurd h (by simp), hB2⟩
  case round =>
    clear hsb2 hib2 hm2 hB2
    rintro a wr ⟨k, sl, Ds, u8, u15, u16, u17, u18, u19, u20, u21, u32, hk, rfl, ⟨hib, hsb, htr⟩, hrow, hmk, hDs, hB⟩
    by_cases hlt : k < L.length
    · obtain ⟨g, rfl, hgw, hc⟩ := HG.out (by omega)
      have k0 : (0 : Int) ≤ k := by omega
      have k1 : (k : Int) < L.length := by omega
      have hbc : ∀ o, o < 9 → wr.cell? ⟨g, k * 9 + o, none⟩ = some (frC (atF L k) o) := fun o ho => (hB.cell (p := ⟨g, k * 9 + o, none⟩) (by omega)).trans (hc k hlt o ho)
      have c0 : wr.cell? ⟨g, k * 9, none⟩ = some (.int .i64 (atF L k).id) := hbc 0 (by omega)
      have c1 : wr.cell? ⟨g, k * 9 + 1, none⟩ = some (.int .i64 (atF L k).pa) := hbc 1 (by omega)
      have c2 : wr.cell? ⟨g, k * 9 + 2, none⟩ = some (.string (atF L k).sc) := hbc 2 (by omega)
      have c3 : wr.cell? ⟨g, k * 9 + 3, none⟩ = some (.string (atF L k).ho) := hbc 3 (by omega)
      have c4 : wr.cell? ⟨g, k * 9 + 4, none⟩ = some (.int .i64 (atF L k).po) := hbc 4 (by omega)
      have c5 : wr.cell? ⟨g, k * 9 + 5, none⟩ = some (.string (atF L k).pt) := hbc 5 (by omega)
      have c6 : wr.cell? ⟨g, k * 9 + 6, none⟩ = some (.bool (atF L k).sb) := hbc 6 (by omega)
      have c7 : wr.cell? ⟨g, k * 9 + 7, none⟩ = some (.bool (atF L k).fl) := hbc 7 (by omega)
      have c8 : wr.cell? ⟨g, k * 9 + 8, none⟩ = some (.int .i64 (atF L k).tc) := hbc 8 (by omega)
      have hST := HST.out k hlt
      have hTK : takesF L I (atF L k).id = (wayF L (atF L k).id).any (fun g => I.contains g.id) := rfl
      have hle := HLE.out k
      obtain ⟨hi1, hi2⟩ := HID.out k hlt
      have HS1 : Hid (shutI L I (k + 1) = if takesF L I (atF L k).id = true then shutI L I k ++ [(atF L k).id] else shutI L I k) := hST
      have HTK : Hid (takesF L I (atF L k).id = (wayF L (atF L k).id).any (fun g => I.contains g.id)) := hTK
      clear hc hbc hST hTK
      generalize takesF L I (atF L k).id = tk at *
      generalize atF L k = y at *
      generalize hY2 : shutI L I (k + 1) = Y2 at *
      generalize shutI L I k = Y at *
      generalize hm : Y.length = m at *
      have HM : Hid (Y.length = m) := hm
      have HY2 : Hid (shutI L I (k + 1) = Y2) := hY2
      clear hm hY2
      obtain ⟨yid, ypa, ysc, yho, ypo, ypt, ysb, yfl, ytc⟩ := y
      dsimp only at *
      have Hib : Hid (Boxed wr qb 58 (.slice sp I.length scap)) := hib
      have Hsb : Hid (Boxed wr sb 58 sl) := hsb
      have Htr : Hid (TreeIs wr bm 10 L) := htr
      have Hrow : Hid (wr.ownsRow qb 2 1 sl m (intsV Y)) := hrow
      have Hmk : Hid (MarksI Ds wr) := hmk
      have HB : Hid (Below qb w wr) := hB
      have HDs : Hid (∀ D ∈ Ds, qb ≤ D) := hDs
      clear hib hsb htr hrow hmk hB hDs
      gi_wp2_with fail
      refine ⟨trivial, ?_⟩
      refine (callsIn_wide.2 (outward_any bm yid _)).mono ?_
      rintro e w3 ⟨rfl, rfl⟩
      gi_wp2_with fail
      obtain ⟨W4, hW4⟩ : ∃ W4, W4 = ((wr.alloc (.cells #[.int .i64 yid, .int .i64 ypa, .string ysc, .string yho, .int .i64 ypo, .string ypt, .bool ysb, .bool yfl, .int .i64 ytc] 54)).alloc (.cells #[.map (some bm)] 79)).alloc (.cells #[.int .i64 yid] 2) := ⟨_, rfl⟩
      rw [← hW4]
      have A4 : Below wr.heap.size wr W4 := by rw [hW4]; exact (((Below.refl _ _).alloc (Nat.le_refl _) _).alloc (by simp) _).alloc (by simp; omega) _
      have z4 : W4.heap.size = wr.heap.size + 1 + 1 + 1 := by rw [hW4]; simp
      have ht4 : W4.cell? ⟨wr.heap.size + 1, 0, none⟩ = some (.map (some bm)) := by rw [hW4]; exact (cell_under9 _ _ _ _ (by simp)).trans (by simp)
      have hi4 : W4.cell? ⟨wr.heap.size + 1 + 1, 0, none⟩ = some (.int .i64 yid) := by rw [hW4]; exact (World.cell?_alloc_at _ _ _ _ (by simp)).trans rfl
      have hf4 : W4.cell? ⟨wr.heap.size, 0, none⟩ = some (.int .i64 yid) := by rw [hW4]; exact (cell_under9 _ _ _ _ (by simp; omega)).trans ((cell_under9 _ _ _ _ (by simp)).trans (by simp))
      have hib4 : Boxed W4 qb 58 (.slice sp I.length scap) := boxed_below Hib.out A4
      have hsb4 : Boxed W4 sb 58 sl := boxed_below Hsb.out A4
      have htr4 : TreeIs W4 bm 10 L := Htr.out.below A4
      have hrow4 : W4.ownsRow qb 2 1 sl m (intsV Y) := ownR_below Hrow.out A4
      have hmk4 : MarksI Ds W4 := Hmk.out.below A4
      have hB4 : Below qb w W4 := HB.out.trans (A4.mono (HSZ.out _ HB.out))
      have zqs : qb < sb := zib
      have zsb : sb < wr.heap.size := Hsb.out.lt
      have zbm : bm < wr.heap.size := Htr.out.lt
      have hL := HL.out
      clear hW4 A4 Hib Hsb Htr Hrow Hmk HB c0 c1 c2 c3 c4 c5 c6 c7 c8
      generalize hfb : wr.heap.size = fb at *
      generalize hbt : fb + 1 = bt at *
      generalize hbi : bt + 1 = bi at *
      refine wpIn_rangeFunc_ownH rfl (by omega) (gf := 76) (lb := #[.pointer (some ⟨bt, 0, none⟩), .pointer (some ⟨bi, 0, none⟩)]) rfl trivial (enters_of Tryd.func76 (by kernel_rfl) rfl)
        (outward_stops (6 - 1) (by omega) bt bi bm none L hL yid (by omega) (by omega) W4 ht4 hi4 htr4 (by omega) (by omega) (fun e => by cases e) (fun e => by cases e) (fun r e => by cases e)) (fun h k => KpF.trans h k) (KpF.put (Nat.le_refl _)) (Below.refl _ _) (fun _ => rfl)
        (fun (pre : List Fr) W => Below W4.heap.size W4 W ∧ ∀ a ∈ pre, I.contains a.id = false)
        (fun c (pre : List Fr) W => (c = .exit 2 ∧ ∃ a ∈ pre, I.contains a.id = true) ∧ (∃ u, Boxed W sb 58 u ∧ W.ownsRow qb 2 1 u (m + 1) (intsV (Y ++ [yid])) ∧ True) ∧ Boxed W qb 58 (.slice sp I.length scap) ∧ KeepsFrom 0 W4 W ∧ Below qb w W)
        (OwnFrom.and (ownFrom_below (Nat.le_refl _) (Nat.le_refl _)) (ownFrom_pure _ _))
        (fun c => OwnFrom.and (ownFrom_pure _ (fun (pre : List Fr) => c = .exit 2 ∧ ∃ a ∈ pre, I.contains a.id = true)) (OwnFrom.and (Own.from (holdsRow_own qb sb 58 2 1 (fun _ => m + 1) (fun _ => intsV (Y ++ [yid])) (fun _ _ => True)) _) (OwnFrom.and (Own.from (boxed_own qb 58 (fun _ => (.slice sp I.length scap))) _) (OwnFrom.and (ownFrom_keepsFrom (Nat.le_refl _)) (ownFrom_below (Nat.le_of_eq hqb.symm) (by omega))))))
        ⟨Below.refl _ _, fun a h => absurd h (by simp)⟩
        (fun x a' W => ∃ (Bx : Nat) (x15 x16 x17 x18 x19 x20 x21 x22 : Value), W4.heap.size ≤ Bx ∧ BoxV W Bx (frVals x) ∧ a' = { tmps := #[.slice (some ⟨g, 0, none⟩) L.length cap, (.slice sp I.length scap), undef, .pointer (some ⟨qb, 0, none⟩), .slice none 0 0, .map (some bm), .pointer (some ⟨sb, 0, none⟩), undef, .pointer (some ⟨fb, 0, none⟩), .pointer (some ⟨Bx, 0, none⟩), .slice (some ⟨g, 0, none⟩) L.length cap, .map (some bm), .slice (some ⟨g, 0, none⟩) L.length cap, .int .i64 L.length, .int .i64 k, x15, x16, x17, x18, x19, x20, x21, x22, undef, undef, undef, undef, undef, undef, undef, undef, undef, u32, undef], defers := [] })
        (fun x a' s X Y row hs hg hr => by obtain ⟨Bx, x15, x16, x17, x18, x19, x20, x21, x22, h1, h2, h3⟩ := hs; exact ⟨Bx, x15, x16, x17, x18, x19, x20, x21, x22, h1, h2.kept hg (fun r e => (hr r e).2), h3⟩) ?assign ?body ?done ?stop
      case assign =>
        rintro l pre x W K ⟨h1, h2⟩ hK
        have hx := boxV_new W (frVals x) 54
        unfold frVals frV at *
        dsimp only at *
        gi_wp2
        exact hK _ _ ((KeepsOthers.alloc _ _).from _) (KpF.of_below ((Below.refl _ _).alloc (Nat.le_refl _) _)) ⟨h1.alloc h1.size _, h2⟩ ⟨W.heap.size, _, _, _, _, _, _, _, _, h1.size, hx, rfl⟩
      case body =>
        rintro l pre x a' W hl ⟨r, hr⟩ ⟨h1, h2⟩ ⟨Bx, x15, x16, x17, x18, x19, x20, x21, x22, hBx, bX, rfl⟩ hlt2
        have H1 : Hid (Below W4.heap.size W4 W) := h1
        have H2 : Hid (∀ a ∈ pre, I.contains a.id = false) := h2
        have hBw : Below qb w W := hB4.trans (h1.mono (HSZ.out _ hB4))
        have HBw : Hid (Below qb w W) := hBw
        have hibW : Boxed W qb 58 (.slice sp I.length scap) := boxed_below hib4 h1
        have hsbW : Boxed W sb 58 sl := boxed_below hsb4 h1
        have hrowW : W.ownsRow qb 2 1 sl m (intsV Y) := ownR_below hrow4 h1
        have HibW : Hid (Boxed W qb 58 (.slice sp I.length scap)) := hibW
        have HsbW : Hid (Boxed W sb 58 sl) := hsbW
        have HrowW : Hid (W.ownsRow qb 2 1 sl m (intsV Y)) := hrowW
        have ib0 : W.cell? ⟨qb, 0, none⟩ = some (.slice sp I.length scap) := hibW.cell
        have sb0 : W.cell? ⟨sb, 0, none⟩ = some sl := hsbW.cell
        have fb0 : W.cell? ⟨fb, 0, none⟩ = some (.int .i64 yid) := by rw [h1.cell (p := ⟨fb, 0, none⟩) (show fb < W4.heap.size by omega)]; exact hf4
        have KS : Hid (Calls Tryd.prog 56 #[(.slice sp I.length scap), .int .i64 x.id] W fun e w' => e = .returned (.bool (I.contains x.id)) ∧ w' = W) := KC.out x.id W hBw
        have zW : qb ≤ W.heap.size := Nat.le_trans (Nat.le_of_lt (show qb < W4.heap.size by omega)) h1.size
        clear h1 h2 hBw hibW hsbW hrowW hr hlt2
        obtain ⟨xid, xpa, xsc, xho, xpo, xpt, xsb, xfl, xtc⟩ := x
        unfold frVals at bX
        dsimp only at *
        have x0 : W.cell? ⟨Bx, 0, none⟩ = some (.int .i64 xid) := bX.at (i := 0) rfl
        clear bX
        gi_wp2_with fail
        refine ⟨trivial, ?_⟩
        refine (CallsIn.inRound l (callsIn_wide.2 KS.out)).mono ?_
        rintro e w5 ⟨rfl, h5⟩
        have h6 := h5.symm
        subst h6
        cases hsx : I.contains xid with
        | true =>
          have HSX : Hid (I.contains xid = true) := hsx
          clear hsx
          gi_wp2_with (gi_at_builtin; refine wpListIn_append_own _ rfl _ _ 58 rfl qb 2 i0 (.int .i64 0) 1 8 Tryd.underlying58 hi hy0 hy1 hy2 rfl (by decide) _ _ _ rfl (HrowW.out.alloc _) ⟨W.heap.size, 0, none⟩ 1 1 [.int .i64 yid] rfl rfl (cellOne9 _ _ _) (by intro v h; rw [List.mem_singleton] at h; subst h; rfl) (by unfold maxLen; omega) (by omega) (by simp; omega) ?_; intro v' w1 hown' hgrow _; obtain ⟨g', cap', rfl⟩ := ownsRow_succ hown'; obtain ⟨hv1, hv2, hr2, hk2, hb2⟩ := HsbW.out.appended (by decide) HrowW.out zW (by omega) hown' hgrow; have hiw := ((HibW.out.alloc _).kept hgrow (HibW.out.not_row (by decide) HrowW.out)); have hc1 := hv1.cell; have hf1 := hv1.frozen)
          refine ⟨hk2.from _, ⟨rfl, ⟨xid, xpa, xsc, xho, xpo, xpt, xsb, xfl, xtc⟩, by simp, HSX.out⟩, ⟨_, hv2, ?_, trivial⟩, Boxed.other hiw (by omega) _, ⟨Nat.le_trans H1.out.size hk2.size, fun k o _ hk ho => hk2.same k o ((H1.out.block k (Array.getElem?_eq_some_iff.1 hk).1).trans hk) ho⟩, HBw.out.trans hb2⟩
          unfold intsV
          rw [List.map_append]
          exact hr2
        | false =>
          have HSX : Hid (I.contains xid = false) := hsx
          clear hsx
          gi_wp2
          refine ⟨KeepsFrom.refl _ _, KpF.refl _ _ _, H1.out, fun a ha => ?_⟩
          rcases List.mem_append.1 ha with ha | ha
          · exact H2.out a ha
          · rw [List.mem_singleton] at ha; subst ha; exact HSX.out
      case done =>
        rintro D ys W hD hys ⟨h1, h2⟩ hK
        have HTF : Hid (tk = false) := by
          show tk = false
          rw [HTK.out, ← hys, List.any_eq_false]
          intro a ha
          rw [h2 a ha]; decide
        have HR : Hid (Below W4.heap.size W4 W) := h1
        have HKD : Hid (W.heap[D]? = some (.deferred (some []))) := hK
        clear h1 h2 hK hys
        gi_wp2
        refine ⟨⟨k + 1, sl, D :: Ds, _, _, _, _, _, _, _, _, _, by omega, rfl, ⟨boxed_below hib4 HR.out, boxed_below hsb4 HR.out, htr4.below HR.out⟩, ?_, MarksI.cons (hmk4.below HR.out) HKD.out (fun E hE => Nat.lt_of_lt_of_le (hmk4.lt E hE) hD), ?_, hB4.trans (HR.out.mono (HSZ.out _ hB4))⟩, ?_⟩
        · rw [HY2.out, HS1.out, HTF.out, if_neg (by decide), HM.out]
          exact ownR_below hrow4 HR.out
        · intro E hE
          rcases List.mem_cons.1 hE with rfl | hE
          · omega
          · exact HDs.out E hE
        · simp [intOf]; omega
      case stop =>
        rintro D c pre W hD hpre ⟨⟨rfl, a, ha, hsa⟩, ⟨u, hu1, hu2, -⟩, h3, h4, h5⟩ hK
        have HTT : Hid (tk = true) := by
          show tk = true
          rw [HTK.out, List.any_eq_true]
          exact ⟨a, hpre.subset ha, hsa⟩
        have HKD : Hid (W.heap[D]? = some (.deferred (some []))) := hK
        clear ha hsa hpre hK
        gi_wp2
        refine ⟨⟨k + 1, u, D :: Ds, _, _, _, _, _, _, _, _, _, by omega, rfl, ⟨h3, hu1, htr4.of_block (by
          have hz := htr4
          obtain ⟨DD, ⟨es, clock, h0, _⟩, _⟩ := hz
          rw [h0]; exact h4.same bm _ (Nat.zero_le _) h0 rfl)⟩, ?_, MarksI.cons (hmk4.keep h4) HKD.out (fun E hE => Nat.lt_of_lt_of_le (hmk4.lt E hE) hD), ?_, h5⟩, ?_⟩
        · rw [HY2.out, HS1.out, HTT.out, if_pos rfl, List.length_append, HM.out]
          exact hu2
        · intro E hE
          rcases List.mem_cons.1 hE with rfl | hE
          · omega
          · exact HDs.out E hE
        · simp [intOf]; omega
    · have hkL : k = L.length := by omega
      subst hkL
      have sb0 : wr.cell? ⟨sb, 0, none⟩ = some sl := hsb.cell
      have Hib : Hid (Boxed wr qb 58 (.slice sp I.length scap)) := hib
      have Hrow : Hid (wr.ownsRow qb 2 1 sl (shutI L I L.length).length (intsV (shutI L I L.length))) := hrow
      have Hmk : Hid (MarksI Ds wr) := hmk
      have HB : Hid (Below qb w wr) := hB
      have HDs : Hid (∀ D ∈ Ds, qb ≤ D) := hDs
      clear hib hsb htr hrow hmk hB hDs
      gi_wp2
      refine leavesM_marks qb Ds wr Hmk.out HDs.out fun W' hb hc => ?_
      exact ⟨_, results_tmp rfl _ _ _, sl, rfl, by rw [hqb]; exact row_cells Hrow.out hc, by rw [hqb]; exact HB.out.trans hb⟩
end Go.Proofs.YtclpamjgglfljaaDoor

/- What a frame's shutting takes: those that have it on their way, told in two ways. -/
namespace Go.Proofs.YtclpamjgglfljaaDoor
open Go.RowKit

theorem way_any {L : List Fr} (h : framesB L = true) {z : Int} (hz : hereF L z = true) : ∀ k, k < L.length → (wayF L (atF L k).id).any (fun f => f.id == z) = ((atF L k).id == z || inF L (atF L k).id z) := by
  intro k
  induction k using Nat.strongRecOn with
  | ind k ih =>
    intro hk
    have e1 : (wayF L (atF L k).id).any (fun f => f.id == z) = ((atF L k).id == z || (wayF L (atF L k).pa).any (fun f => f.id == z)) := by
      rw [wayF_here h (here_at h hk).1, (here_at h hk).2, List.any_cons]
    rw [e1, inF_at h hk]
    by_cases hp : (atF L k).pa = 0
    · have h0 := zero_away h
      rw [hp, wayF_none h0, inF_none z h0]
      have h1 : ((0 : Int) == z) = false := by
        rw [beq_eq_false_iff_ne]
        rintro rfl
        rw [h0] at hz; cases hz
      rw [h1]
      rfl
    · obtain ⟨j, hj, -, ej⟩ := parent_here h hk hp
      rw [← ej, ih j hj (by omega)]
/-- those that stay, as the program picks them -/
def stayF (L : List Fr) (z : Int) : List Fr := L.filter (fun f => !((wayF L f.id).any (fun g => g.id == z)))
theorem stayF_shut {L : List Fr} (h : framesB L = true) {z : Int} (hz : hereF L z = true) : stayF L z = (innerF L z).filter (fun f => !(f.id == z)) := by
  unfold stayF innerF
  rw [List.filter_filter]
  refine List.filter_congr fun f hf => ?_
  obtain ⟨k, hk, rfl⟩ := List.mem_iff_getElem.1 hf
  rw [← atF_get hk, way_any h hz k hk]
  cases (atF L k).id == z <;> cases inF L (atF L k).id z <;> rfl
theorem shutF_stay {L : List Fr} {id : Int} (h : ¬ 400 < L.length) (h1 : framesB L = true) (h2 : hereF L id = true) : shutF L id = ⟨stayF L id, id, 0⟩ := by
  rw [shutF_ok h h1 h2, stayF_shut h1 h2]
end Go.Proofs.YtclpamjgglfljaaDoor

/- The walk of the program's FrameOpen. Written by implopen.py. -/
namespace Go.Proofs.YtclpamjgglfljaaDoor
open Go.RowKit

theorem withF_none (L : List Fr) : withF [] L = L := by
  unfold withF
  rw [List.filter_eq_self]
  intro x _; rfl
theorem uF_sizes {f : Fr} (h : uF f = true) : f.sc.size ≤ 1000000 ∧ f.ho.size ≤ 1000000 ∧ f.pt.size ≤ 1000000 := by
  obtain ⟨h1, h2, -, -, h3⟩ := urlB_parts h
  omega
theorem below_cell9 {A w : World} {g : Nat} (h : Below A.heap.size A w) (j : Nat) (hg : g < A.heap.size) : w.cell? ((⟨g, 0, none⟩ : Addr).add j) = A.cell? ((⟨g, 0, none⟩ : Addr).add j) := by
  have e : (⟨g, 0, none⟩ : Addr).add j = ⟨g, j, none⟩ := by unfold Addr.add; split <;> simp_all
  rw [e]
  exact World.cell?_of_block (a := ⟨g, j, none⟩) (h.block g hg)
theorem okF_u9 {L : List Fr} {k : Nat} (h : okF L k = true) : uF (atF L k) = true := by
  unfold okF frB at h
  simp only [Bool.and_eq_true] at h
  exact h.1.1.1.1.2
end Go.Proofs.YtclpamjgglfljaaDoor

/- The walk of the program's FrameShut. Written by implshutf.py. -/
namespace Go.Proofs.YtclpamjgglfljaaDoor
open Go.RowKit

theorem shut_contains {L : List Fr} (I : List Int) {f : Fr} (hf : f ∈ L) : (shutI L I L.length).contains f.id = takesF L I f.id := by
  rw [Bool.eq_iff_iff, List.contains_iff_mem]
  unfold shutI
  rw [List.take_length, List.mem_map]
  constructor
  · rintro ⟨g, hg, e⟩
    rw [List.mem_filter] at hg
    rw [← e]; exact hg.2
  · intro h
    exact ⟨f, List.mem_filter.2 ⟨hf, h⟩, rfl⟩
theorem withF_shut (L : List Fr) (I : List Int) : withF (shutI L I L.length) L = L.filter (fun f => !(takesF L I f.id)) := by
  unfold withF
  exact List.filter_congr fun f hf => by rw [shut_contains I hf]
theorem withF_stay (L : List Fr) (z : Int) : withF (shutI L [z] L.length) L = stayF L z := by
  rw [withF_shut]
  unfold stayF takesF
  refine List.filter_congr fun f _ => ?_
  have e : (fun g : Fr => [z].contains g.id) = fun g : Fr => g.id == z := by funext g; rw [Bool.eq_iff_iff]; simp
  rw [e]
theorem sliceN_of_own {w : World} {B : Nat} {t : TypeId} {v : Value} {I : List Int} (h : w.ownsRow B t 1 v I.length (intsV I)) : SliceN w B v I :=
  sliceR_of_own h (fun j hj o ho => by
    have e : j * 1 + o = j := by omega
    rw [e]
    unfold intsV
    rw [List.getElem?_map, List.getElem?_eq_getElem hj, List.getD_eq_getElem?_getD, List.getElem?_eq_getElem hj]
    rfl)
theorem sliceN_one (w : World) (z : Int) (t : TypeId) : SliceN (w.alloc (.cells #[.int .i64 z] t)) w.heap.size (.slice (some ⟨w.heap.size, 0, none⟩) 1 1) [z] :=
  ⟨_, 1, rfl, fun _ => ⟨w.heap.size, rfl, Nat.le_refl _, by simp, fun j hj o ho => by
    have hj0 : j = 0 := by simpa using hj
    have ho0 : o = 0 := by omega
    subst hj0 ho0
    exact ⟨by rw [World.cell?_alloc_new]; rfl, by simp⟩⟩⟩
theorem shutF_len (L : List Fr) (id : Int) : (shutF L id).ar.length ≤ 17 := by
  unfold shutF
  split
  · exact Nat.zero_le _
  · split
    · exact Nat.zero_le _
    · rename_i h1
      split
      · exact Nat.zero_le _
      · show ((innerF L id).filter _).length ≤ 17
        have h2 : framesB L = true := by cases h : framesB L <;> simp_all
        have h3 := (framesB_parts h2).1
        have h4 : (innerF L id).length ≤ L.length := List.length_filter_le _ _
        exact Nat.le_trans (List.length_filter_le _ _) (by omega)
set_option maxRecDepth 10000 in
set_option maxHeartbeats 16000000 in
theorem frameShut_any (v : Value) (L : List Fr) (B : Nat) (id : Int) (w : World) (hG : MaxI w) (hs : SliceF w B v L) (hn : L.length ≤ 1048576) (hh : ∀ i, i < L.length → (atF L i).ho.size ≤ 1048576) :
    Calls Tryd.prog 21 #[v, .int .i64 id] w fun e w' => ∃ v', e = .returned v' ∧ AnsF w' w.heap.size v' (shutF L id) ∧ Below w.heap.size w w' := by
  have KR : Hid (∀ W, Below w.heap.size w W → Calls Tryd.prog 29 #[v] W fun e w' => e = .returned (.bool (framesB L)) ∧ Below W.heap.size W w') := fun W hb => framesRight_any v L B W (hG.on hb) (hs.below hb) hn hh
  have KA : Hid (∀ W, Below w.heap.size w W → Calls Tryd.prog 32 #[v, .int .i64 id] W fun e w' => e = .returned (.int .i64 (whF L id)) ∧ Below W.heap.size W w') := fun W hb => placeOf9_any v L B id W (hs.below hb) hn
  have KN : Hid (framesB L = true → ∀ sv Bs W, Below w.heap.size w W → SliceN W Bs sv [id] → Calls Tryd.prog 34 #[v, sv] W fun e w' => ∃ v', e = .returned v' ∧ w'.ownsRow W.heap.size 2 1 v' (shutI L [id] L.length).length (intsV (shutI L [id] L.length)) ∧ Below W.heap.size W w') := fun hL sv Bs W hb h => shutWith_any v sv L [id] B Bs W (hs.below hb) hL h (by simp)
  have KW : Hid (framesB L = true → ∀ sv Bs W, Below w.heap.size w W → SliceN W Bs sv (shutI L [id] L.length) → Calls Tryd.prog 33 #[v, sv] W fun e w' => ∃ v', e = .returned v' ∧ w'.ownsRow W.heap.size 54 9 v' (stayF L id).length (frCells (stayF L id)) ∧ Below W.heap.size W w') := fun hL sv Bs W hb h => by
    have h10 := (framesB_parts hL).1
    have k := framesWithout_any v sv L (shutI L [id] L.length) B Bs W (hs.below hb) (by omega) h (Nat.le_trans (shutI_len _ _ _) (by omega)) (fun i hi => uF_sizes (okF_u9 ((framesB_parts hL).2 i hi)))
    rw [withF_stay] at k
    exact k
  obtain ⟨W0, hW⟩ : ∃ W0, W0 = w.alloc (.cells #[.slice none 0 0, .int .i64 0, .int .i64 0] 31) := ⟨_, rfl⟩
  have hW0 : Hid (W0 = w.alloc (.cells #[.slice none 0 0, .int .i64 0, .int .i64 0] 31)) := hW
  have X0 : Hid (BoxV W0 w.heap.size [.slice none 0 0, .int .i64 0, .int .i64 0]) := by show BoxV _ _ _; rw [hW]; exact boxV_new w [.slice none 0 0, .int .i64 0, .int .i64 0] 31
  have B0 : Hid (Below w.heap.size w W0) := by show Below _ _ _; rw [hW]; exact (Below.refl _ _).alloc (Nat.le_refl _) _
  obtain ⟨p, cap, rfl⟩ : ∃ p cap, v = .slice p L.length cap := by obtain ⟨-, p, c, e, -⟩ := hs; exact ⟨p, c, e⟩
  clear hW hs hG hh
  by_cases h4 : 400 < L.length
  · have q4 : decide ((400 : Int) < (L.length : Int)) = true := by rw [decide_eq_true_iff]; omega
    have HQ : Hid (shutF L id = ⟨[], 0, 2⟩) := by show _ = _; exact shutF_size h4
    have x0 : W0.cell? ⟨w.heap.size, 0, none⟩ = some (.slice none 0 0) := X0.out.at (i := 0) rfl
    have xf0 : W0.frozen? ⟨w.heap.size, 0, none⟩ = false := X0.out.free (i := 0) rfl
    have x1 : W0.cell? ⟨w.heap.size, 1, none⟩ = some (.int .i64 0) := X0.out.at (i := 1) rfl
    have xf1 : W0.frozen? ⟨w.heap.size, 1, none⟩ = false := X0.out.free (i := 1) rfl
    have x2 : W0.cell? ⟨w.heap.size, 2, none⟩ = some (.int .i64 0) := X0.out.at (i := 2) rfl
    have xf2 : W0.frozen? ⟨w.heap.size, 2, none⟩ = false := X0.out.free (i := 2) rfl
    go_enter Tryd.func21, Tryd.ntmps21
    go_upto_region 1 with fail
    rw [← hW0.out]
    clear hW0
    go_wp2
    exact bodyPost_ret (v := .agg #[.slice none 0 0, .int .i64 0, .int .i64 2]) (by simp [results, Tryd.results21, go_sem, x0, x1, x2]) rfl ⟨_, rfl, ⟨.slice none 0 0, by rw [HQ.out], by rw [HQ.out]; exact sliceF_none _ _⟩, (Below.setCell (Below.setCell (Below.setCell B0.out (Nat.le_refl _) _) (Nat.le_refl _) _) (Nat.le_refl _) _)⟩
  have q4 : decide ((400 : Int) < (L.length : Int)) = false := by rw [decide_eq_false_iff_not]; omega
  go_enter Tryd.func21, Tryd.ntmps21
  go_upto_region 1 with fail
  rw [← hW0.out]
  clear hW0
  go_wp2_with fail
  refine (KR.out _ B0.out).mono ?_
  rintro e w1 ⟨rfl, hb1⟩
  have X1 : Hid (BoxV w1 w.heap.size [.slice none 0 0, .int .i64 0, .int .i64 0]) := X0.out.below hb1
  have B1 : Hid (Below w.heap.size w w1) := B0.out.trans (hb1.mono B0.out.size)
  clear hb1 X0 B0 KR
  cases hfb : framesB L with
  | false =>
    have HQ : Hid (shutF L id = ⟨[], 0, 1⟩) := by show _ = _; exact shutF_form h4 hfb
    have x0 : w1.cell? ⟨w.heap.size, 0, none⟩ = some (.slice none 0 0) := X1.out.at (i := 0) rfl
    have xf0 : w1.frozen? ⟨w.heap.size, 0, none⟩ = false := X1.out.free (i := 0) rfl
    have x1 : w1.cell? ⟨w.heap.size, 1, none⟩ = some (.int .i64 0) := X1.out.at (i := 1) rfl
    have xf1 : w1.frozen? ⟨w.heap.size, 1, none⟩ = false := X1.out.free (i := 1) rfl
    have x2 : w1.cell? ⟨w.heap.size, 2, none⟩ = some (.int .i64 0) := X1.out.at (i := 2) rfl
    have xf2 : w1.frozen? ⟨w.heap.size, 2, none⟩ = false := X1.out.free (i := 2) rfl
    go_wp2
    exact bodyPost_ret (v := .agg #[.slice none 0 0, .int .i64 0, .int .i64 1]) (by simp [results, Tryd.results21, go_sem, x0, x1, x2]) rfl ⟨_, rfl, ⟨.slice none 0 0, by rw [HQ.out], by rw [HQ.out]; exact sliceF_none _ _⟩, (Below.setCell (Below.setCell (Below.setCell B1.out (Nat.le_refl _) _) (Nat.le_refl _) _) (Nat.le_refl _) _)⟩
  | true =>
  go_wp2_with fail
  refine (KA.out _ B1.out).mono ?_
  rintro e w2 ⟨rfl, hb2⟩
  have X2 : Hid (BoxV w2 w.heap.size [.slice none 0 0, .int .i64 0, .int .i64 0]) := X1.out.below hb2
  have B2 : Hid (Below w.heap.size w w2) := B1.out.trans (hb2.mono B1.out.size)
  clear hb2 X1 B1 KA
  have hwd : hereF L id = decide (0 ≤ whF L id) := rfl
  cases hh : hereF L id with
  | false =>
    have hw : whF L id < 0 := by rw [hwd, decide_eq_false_iff_not] at hh; omega
    have HQ0 : shutF L id = ⟨[], 0, 6⟩ := shutF_none h4 hfb hh
    clear hh hwd
    generalize whF L id = k at *
    have HQ : Hid (shutF L id = ⟨[], 0, 6⟩) := by show _ = _; exact HQ0
    have x0 : w2.cell? ⟨w.heap.size, 0, none⟩ = some (.slice none 0 0) := X2.out.at (i := 0) rfl
    have xf0 : w2.frozen? ⟨w.heap.size, 0, none⟩ = false := X2.out.free (i := 0) rfl
    have x1 : w2.cell? ⟨w.heap.size, 1, none⟩ = some (.int .i64 0) := X2.out.at (i := 1) rfl
    have xf1 : w2.frozen? ⟨w.heap.size, 1, none⟩ = false := X2.out.free (i := 1) rfl
    have x2 : w2.cell? ⟨w.heap.size, 2, none⟩ = some (.int .i64 0) := X2.out.at (i := 2) rfl
    have xf2 : w2.frozen? ⟨w.heap.size, 2, none⟩ = false := X2.out.free (i := 2) rfl
    go_wp2
    exact bodyPost_ret (v := .agg #[.slice none 0 0, .int .i64 0, .int .i64 6]) (by simp [results, Tryd.results21, go_sem, x0, x1, x2]) rfl ⟨_, rfl, ⟨.slice none 0 0, by rw [HQ.out], by rw [HQ.out]; exact sliceF_none _ _⟩, (Below.setCell (Below.setCell (Below.setCell B2.out (Nat.le_refl _) _) (Nat.le_refl _) _) (Nat.le_refl _) _)⟩
  | true =>
  have hw : ¬ (whF L id < 0) := by rw [hwd, decide_eq_true_iff] at hh; omega
  have qw : decide (whF L id < 0) = false := by rw [decide_eq_false_iff_not]; exact hw
  have HQ : Hid (shutF L id = ⟨stayF L id, id, 0⟩) := shutF_stay h4 hfb hh
  have KN1 : Hid (∀ sv Bs W, Below w.heap.size w W → SliceN W Bs sv [id] → Calls Tryd.prog 34 #[.slice p L.length cap, sv] W fun e w' => ∃ v', e = .returned v' ∧ w'.ownsRow W.heap.size 2 1 v' (shutI L [id] L.length).length (intsV (shutI L [id] L.length)) ∧ Below W.heap.size W w') := KN.out hfb
  have KW1 : Hid (∀ sv Bs W, Below w.heap.size w W → SliceN W Bs sv (shutI L [id] L.length) → Calls Tryd.prog 33 #[.slice p L.length cap, sv] W fun e w' => ∃ v', e = .returned v' ∧ w'.ownsRow W.heap.size 54 9 v' (stayF L id).length (frCells (stayF L id)) ∧ Below W.heap.size W w') := KW.out hfb
  clear hh hwd hw KN KW
  generalize whF L id = wh at *
  generalize shutI L [id] L.length = J at *
  generalize stayF L id = M at *
  have S2 := sliceN_one w2 id 2
  have A2 : Below w2.heap.size w2 (w2.alloc (.cells #[.int .i64 id] 2)) := (Below.refl _ _).alloc (Nat.le_refl _) _
  have HS2 : Hid (SliceN (w2.alloc (.cells #[.int .i64 id] 2)) w2.heap.size (.slice (some ⟨w2.heap.size, 0, none⟩) 1 1) [id]) := S2
  have HA2 : Hid (Below w2.heap.size w2 (w2.alloc (.cells #[.int .i64 id] 2))) := A2
  clear S2 A2
  go_wp2_with fail
  refine (KN1.out _ _ _ (B2.out.trans (HA2.out.mono B2.out.size)) HS2.out).mono ?_
  rintro e w3 ⟨jv, rfl, oj, hb3⟩
  have X3 : Hid (BoxV w3 w.heap.size [.slice none 0 0, .int .i64 0, .int .i64 0]) := (X2.out.below HA2.out).below hb3
  have B3 : Hid (Below w.heap.size w w3) := (B2.out.trans (HA2.out.mono B2.out.size)).trans (hb3.mono (B2.out.trans (HA2.out.mono B2.out.size)).size)
  have OJ : Hid (SliceN w3 (w2.alloc (.cells #[.int .i64 id] 2)).heap.size jv J) := sliceN_of_own oj
  clear hb3 oj X2 B2 KN1 HS2 HA2
  go_wp2_with fail
  refine (KW1.out _ _ _ B3.out OJ.out).mono ?_
  rintro e w4 ⟨mv, rfl, om, hb4⟩
  have X4 : Hid (BoxV w4 w.heap.size [.slice none 0 0, .int .i64 0, .int .i64 0]) := X3.out.below hb4
  have B4 : Hid (Below w.heap.size w w4) := B3.out.trans (hb4.mono B3.out.size)
  have S4 : Hid (SliceF w4 w3.heap.size mv M) := sliceF_of_own om
  have z3 : w.heap.size < w3.heap.size := X3.out.1
  have HZ3 : Hid (w.heap.size < w3.heap.size) := z3
  clear z3 hb4 om X3 B3 KW1 OJ
  obtain ⟨pm, cm, hmv⟩ : ∃ pm cm, mv = .slice pm M.length cm := by obtain ⟨-, p, c, e, -⟩ := S4.out; exact ⟨p, c, e⟩
  have S5 : Hid (SliceF w4 w3.heap.size (.slice pm M.length cm) M) := by show SliceF _ _ _ _; rw [← hmv]; exact S4.out
  subst hmv
  clear S4
  have x0 : w4.cell? ⟨w.heap.size, 0, none⟩ = some (.slice none 0 0) := X4.out.at (i := 0) rfl
  have xf0 : w4.frozen? ⟨w.heap.size, 0, none⟩ = false := X4.out.free (i := 0) rfl
  have x1 : w4.cell? ⟨w.heap.size, 1, none⟩ = some (.int .i64 0) := X4.out.at (i := 1) rfl
  have xf1 : w4.frozen? ⟨w.heap.size, 1, none⟩ = false := X4.out.free (i := 1) rfl
  have x2 : w4.cell? ⟨w.heap.size, 2, none⟩ = some (.int .i64 0) := X4.out.at (i := 2) rfl
  have xf2 : w4.frozen? ⟨w.heap.size, 2, none⟩ = false := X4.out.free (i := 2) rfl
  go_wp2
  refine bodyPost_ret (v := .agg #[.slice pm M.length cm, .int .i64 id, .int .i64 0]) (by simp [results, Tryd.results21, go_sem, x0, x1, x2]) rfl ⟨_, rfl, ⟨.slice pm M.length cm, by rw [HQ.out], ?_⟩, (Below.setCell (Below.setCell (Below.setCell B4.out (Nat.le_refl _) _) (Nat.le_refl _) _) (Nat.le_refl _) _)⟩
  rw [HQ.out]
  exact (SliceF.store3 S5.out HZ3.out).mono (Nat.le_of_lt HZ3.out)
end Go.Proofs.YtclpamjgglfljaaDoor

/- The law FnExactFramesRight, walked. -/
namespace Go.Proofs.YtclpamjgglfljaaDoor
open Go.RowKit

/-- the texts of frames are no longer than what is asked -/
def szF9 (L : List Fr) : Prop := ∀ i, i < L.length → (atF L i).sc.size + (atF L i).ho.size + (atF L i).pt.size ≤ 1048576
end Go.Proofs.YtclpamjgglfljaaDoor

/- The laws' markFrameS and heldFrameS over slices of frames. Written by rowsmark.py. -/
namespace Go.Proofs.YtclpamjgglfljaaDoor
open Go.RowKit

/-- the mark of a cell, of one whose first number is z -/
def markFrZ (z o : Nat) : Value := if o = 0 then .int .i64 ((z : Int)) else if o = 1 then .int .i64 ((z : Int) + 1) else if o = 2 then .string (markT (z + 2)) else if o = 3 then .string (markT (z + 3)) else if o = 4 then .int .i64 ((z : Int) + 1 + 1 + 1 + 1) else if o = 5 then .string (markT (z + 5)) else if o = 6 then .bool (((z : Int) + 1 + 1 + 1 + 1 + 1 + 1) % 3 == 0) else if o = 7 then .bool (((z : Int) + 1 + 1 + 1 + 1 + 1 + 1 + 1) % 3 == 0) else .int .i64 ((z : Int) + 1 + 1 + 1 + 1 + 1 + 1 + 1 + 1)
def markFrC (q j o : Nat) : Value := markFrZ (q + j * 9) o
def markedF (f : Nat → Nat → Value) (q k j o : Nat) : Value := if j < k then markFrC q j o else f j o
theorem SliceR.atFr {w : World} {B n m g cap : Nat} {f : Nat → Nat → Value} (hs : SliceR w B 9 (.slice (some ⟨g, 0, none⟩) m cap) n f) (k : Nat) (hk : k < n) : ∀ o, o < 9 → w.cell? ⟨g, k * 9 + o, none⟩ = some (f k o) ∧ w.frozen? ⟨g, k * 9 + o, none⟩ = false := by
  obtain ⟨p', cap', e, hh⟩ := hs
  injection e with e1
  obtain ⟨g', e2, -, -, hc⟩ := hh (by omega)
  rw [e2] at e1
  injection e1 with e1
  injection e1 with e1
  subst e1
  exact hc k hk
set_option maxRecDepth 10000 in
set_option maxHeartbeats 8000000 in
theorem markFrameS_any (a : Value) (n B q : Nat) (f : Nat → Nat → Value) (w : World) (ha : SliceR w B 9 a n f) (hn : n ≤ 1048576) (hq : 0 < q) (hq2 : q ≤ 20971520) :
    Calls Tryd.prog 16 #[a, .int .i64 (q : Int)] w fun e w' => e = .returned (.int .i64 ((q + n * 9 : Nat) : Int)) ∧ SliceR w' B 9 a n (markFrC q) ∧ (∀ G, (0 < n → a.ownBlock = some G) → w.grownBy w' (some G)) := by
  have HA : Hid (SliceR w B 9 a n f) := ha
  obtain ⟨p, cap, rfl, h1⟩ := ha
  have HG : Hid (0 < n → ∃ g, p = some ⟨g, 0, none⟩ ∧ B ≤ g ∧ g < w.heap.size) := fun h => by
    obtain ⟨g, e, h2, h3, -⟩ := h1 h
    exact ⟨g, e, h2, h3⟩
  clear h1
  have HM : Hid (∀ (m : Nat) (W : World), 0 < m → m ≤ 9223372036854775807 → Calls Tryd.prog 38 #[.int .i64 (m : Int)] W fun e w' => e = .returned (.string (markT m)) ∧ Below W.heap.size W w') := fun m W h1 h2 => markText_any m W h1 h2
  go_enter Tryd.func16, Tryd.ntmps16
  go_wp2
  go_loopw [1, 5] (fun kk i wr => ∃ k : Nat, k ≤ n ∧ i = .int .i64 k ∧ kk = .int .i64 ((q + k * 9 : Nat) : Int) ∧ Hid (SliceR wr B 9 (.slice p n cap) n (markedF f q k)) ∧ Hid (∀ G, (0 < n → (Value.slice p n cap).ownBlock = some G) → w.grownBy wr (some G))) (fun _ i _ => n - (intOf i).toNat)
  case atStart => exact ⟨0, by omega, rfl, by go_num, HA, fun _ _ => ⟨rfl, rfl, rfl, Nat.le_refl _, fun _ _ _ => rfl⟩⟩
  case round =>
    obtain ⟨k, hk, rfl, rfl, HR, HB⟩ := hrel
    by_cases hlt : k < n
    · obtain ⟨g, rfl, hBg, hgw⟩ := HG.out (by omega)
      have k0 : (0 : Int) ≤ k := by omega
      have k1 : (k : Int) < n := by omega
      have B0 : Hid (w.grownBy wr (some g)) := HB.out g (fun _ => rfl)
      have hzb : q + k * 9 ≤ 50000000 := by omega
      have hz0 : 0 < q + k * 9 := by omega
      have HEnd : Hid (∀ w', SliceR w' B 9 (.slice (some ⟨g, 0, none⟩) n cap) n (fun j o => if j = k then markFrZ (q + k * 9) o else markedF f q k j o) → SliceR w' B 9 (.slice (some ⟨g, 0, none⟩) n cap) n (markedF f q (k + 1))) := fun w' h => SliceR.congr h (fun j hj o ho => by
        unfold markedF markFrC
        by_cases e : j = k
        · subst e; rw [if_pos rfl, if_pos (by omega)]
        · rw [if_neg e]
          by_cases h : j < k
          · rw [if_pos h, if_pos (by omega)]
          · rw [if_neg h, if_neg (by omega)])
      have hnx : ((q + k * 9 : Nat) : Int) + 9 = ((q + (k + 1) * 9 : Nat) : Int) := by omega
      have HNX : Hid (((q + k * 9 : Nat) : Int) + 9 = ((q + (k + 1) * 9 : Nat) : Int)) := hnx
      clear hnx
      generalize markedF f q k = fm at *
      generalize q + k * 9 = zn at *
      have HN2 : Hid (∀ W, Calls Tryd.prog 38 #[.int .i64 ((zn : Int) + 1 + 1)] W fun e w' => e = .returned (.string (markT (zn + 2))) ∧ Below W.heap.size W w') := fun W => by
        have h := HM.out (zn + 2) W (by omega) (by omega)
        have e : ((zn + 2 : Nat) : Int) = (zn : Int) + 1 + 1 := by omega
        rw [e] at h; exact h
      have HN3 : Hid (∀ W, Calls Tryd.prog 38 #[.int .i64 ((zn : Int) + 1 + 1 + 1)] W fun e w' => e = .returned (.string (markT (zn + 3))) ∧ Below W.heap.size W w') := fun W => by
        have h := HM.out (zn + 3) W (by omega) (by omega)
        have e : ((zn + 3 : Nat) : Int) = (zn : Int) + 1 + 1 + 1 := by omega
        rw [e] at h; exact h
      have HN5 : Hid (∀ W, Calls Tryd.prog 38 #[.int .i64 ((zn : Int) + 1 + 1 + 1 + 1 + 1)] W fun e w' => e = .returned (.string (markT (zn + 5))) ∧ Below W.heap.size W w') := fun W => by
        have h := HM.out (zn + 5) W (by omega) (by omega)
        have e : ((zn + 5 : Nat) : Int) = (zn : Int) + 1 + 1 + 1 + 1 + 1 := by omega
        rw [e] at h; exact h
      have X0 : Hid (SliceR wr B 9 (.slice (some ⟨g, 0, none⟩) n cap) n fm) := HR
      clear HM HR HB
      have hx0 := (SliceR.atFr X0.out k hlt 0 (by omega)).1
      have hf0 := (SliceR.atFr X0.out k hlt 0 (by omega)).2
      rw [Nat.add_zero] at hx0 hf0
      generalize fm k 0 = y0 at hx0
      have hx1 := (SliceR.atFr X0.out k hlt 1 (by omega)).1
      have hf1 := (SliceR.atFr X0.out k hlt 1 (by omega)).2
      generalize fm k 1 = y1 at hx1
      go_wp2_with fail
      refine (HN2.out _).mono ?_
      rintro e u1 ⟨rfl, hb1⟩
      have S1 : Hid (SliceR u1 B 9 (.slice (some ⟨g, 0, none⟩) n cap) n (updR (updR fm k 0 (.int .i64 ((zn : Int)))) k 1 (.int .i64 ((zn : Int) + 1)))) := SliceR.below (SliceR.set (SliceR.set (X0.out) k 0 hlt (by omega) (.int .i64 ((zn : Int)))) k 1 hlt (by omega) (.int .i64 ((zn : Int) + 1))) hb1
      have G1 : Hid (w.grownBy u1 (some g)) := grownG_below (grownG_set (grownG_set (B0.out) (k * 9 + 0) (.int .i64 ((zn : Int)))) (k * 9 + 1) (.int .i64 ((zn : Int) + 1))) hb1
      clear hb1 hx0 hf0 hx1 hf1
      have hx2 := (SliceR.atFr S1.out k hlt 2 (by omega)).1
      have hf2 := (SliceR.atFr S1.out k hlt 2 (by omega)).2
      generalize (updR (updR fm k 0 (.int .i64 ((zn : Int)))) k 1 (.int .i64 ((zn : Int) + 1))) k 2 = y2 at hx2
      go_wp2_with fail
      refine (HN3.out _).mono ?_
      rintro e u2 ⟨rfl, hb2⟩
      have S2 : Hid (SliceR u2 B 9 (.slice (some ⟨g, 0, none⟩) n cap) n (updR (updR (updR fm k 0 (.int .i64 ((zn : Int)))) k 1 (.int .i64 ((zn : Int) + 1))) k 2 (.string (markT (zn + 2))))) := SliceR.below (SliceR.set (S1.out) k 2 hlt (by omega) (.string (markT (zn + 2)))) hb2
      have G2 : Hid (w.grownBy u2 (some g)) := grownG_below (grownG_set (G1.out) (k * 9 + 2) (.string (markT (zn + 2)))) hb2
      clear hb2 hx2 hf2
      have hx3 := (SliceR.atFr S2.out k hlt 3 (by omega)).1
      have hf3 := (SliceR.atFr S2.out k hlt 3 (by omega)).2
      generalize (updR (updR (updR fm k 0 (.int .i64 ((zn : Int)))) k 1 (.int .i64 ((zn : Int) + 1))) k 2 (.string (markT (zn + 2)))) k 3 = y3 at hx3
      have hx4 := (SliceR.atFr S2.out k hlt 4 (by omega)).1
      have hf4 := (SliceR.atFr S2.out k hlt 4 (by omega)).2
      generalize (updR (updR (updR fm k 0 (.int .i64 ((zn : Int)))) k 1 (.int .i64 ((zn : Int) + 1))) k 2 (.string (markT (zn + 2)))) k 4 = y4 at hx4
      go_wp2_with fail
      refine (HN5.out _).mono ?_
      rintro e u3 ⟨rfl, hb3⟩
      have S3 : Hid (SliceR u3 B 9 (.slice (some ⟨g, 0, none⟩) n cap) n (updR (updR (updR (updR (updR fm k 0 (.int .i64 ((zn : Int)))) k 1 (.int .i64 ((zn : Int) + 1))) k 2 (.string (markT (zn + 2)))) k 3 (.string (markT (zn + 3)))) k 4 (.int .i64 ((zn : Int) + 1 + 1 + 1 + 1)))) := SliceR.below (SliceR.set (SliceR.set (S2.out) k 3 hlt (by omega) (.string (markT (zn + 3)))) k 4 hlt (by omega) (.int .i64 ((zn : Int) + 1 + 1 + 1 + 1))) hb3
      have G3 : Hid (w.grownBy u3 (some g)) := grownG_below (grownG_set (grownG_set (G2.out) (k * 9 + 3) (.string (markT (zn + 3)))) (k * 9 + 4) (.int .i64 ((zn : Int) + 1 + 1 + 1 + 1))) hb3
      clear hb3 hx3 hf3 hx4 hf4
      have hx5 := (SliceR.atFr S3.out k hlt 5 (by omega)).1
      have hf5 := (SliceR.atFr S3.out k hlt 5 (by omega)).2
      generalize (updR (updR (updR (updR (updR fm k 0 (.int .i64 ((zn : Int)))) k 1 (.int .i64 ((zn : Int) + 1))) k 2 (.string (markT (zn + 2)))) k 3 (.string (markT (zn + 3)))) k 4 (.int .i64 ((zn : Int) + 1 + 1 + 1 + 1))) k 5 = y5 at hx5
      have hx6 := (SliceR.atFr S3.out k hlt 6 (by omega)).1
      have hf6 := (SliceR.atFr S3.out k hlt 6 (by omega)).2
      generalize (updR (updR (updR (updR (updR fm k 0 (.int .i64 ((zn : Int)))) k 1 (.int .i64 ((zn : Int) + 1))) k 2 (.string (markT (zn + 2)))) k 3 (.string (markT (zn + 3)))) k 4 (.int .i64 ((zn : Int) + 1 + 1 + 1 + 1))) k 6 = y6 at hx6
      have hx7 := (SliceR.atFr S3.out k hlt 7 (by omega)).1
      have hf7 := (SliceR.atFr S3.out k hlt 7 (by omega)).2
      generalize (updR (updR (updR (updR (updR fm k 0 (.int .i64 ((zn : Int)))) k 1 (.int .i64 ((zn : Int) + 1))) k 2 (.string (markT (zn + 2)))) k 3 (.string (markT (zn + 3)))) k 4 (.int .i64 ((zn : Int) + 1 + 1 + 1 + 1))) k 7 = y7 at hx7
      have hx8 := (SliceR.atFr S3.out k hlt 8 (by omega)).1
      have hf8 := (SliceR.atFr S3.out k hlt 8 (by omega)).2
      generalize (updR (updR (updR (updR (updR fm k 0 (.int .i64 ((zn : Int)))) k 1 (.int .i64 ((zn : Int) + 1))) k 2 (.string (markT (zn + 2)))) k 3 (.string (markT (zn + 3)))) k 4 (.int .i64 ((zn : Int) + 1 + 1 + 1 + 1))) k 8 = y8 at hx8
      go_wp2
      go_roundw
      case rel =>
        refine ⟨k + 1, by omega, by go_num, val_int (by have := HNX.out; omega), ?_, ?_⟩
        · refine HEnd.out _ (SliceR.congr (SliceR.set (SliceR.set (SliceR.set (SliceR.set (S3.out) k 5 hlt (by omega) (.string (markT (zn + 5)))) k 6 hlt (by omega) (.bool (((zn : Int) + 1 + 1 + 1 + 1 + 1 + 1) % 3 == 0))) k 7 hlt (by omega) (.bool (((zn : Int) + 1 + 1 + 1 + 1 + 1 + 1 + 1) % 3 == 0))) k 8 hlt (by omega) (.int .i64 ((zn : Int) + 1 + 1 + 1 + 1 + 1 + 1 + 1 + 1))) (fun j hj o ho => ?_))
          by_cases e : j = k
          · subst e
            rw [if_pos rfl]
            match o, ho with
            | 0, _ => simp [updR, markFrZ]
            | 1, _ => simp [updR, markFrZ]
            | 2, _ => simp [updR, markFrZ]
            | 3, _ => simp [updR, markFrZ]
            | 4, _ => simp [updR, markFrZ]
            | 5, _ => simp [updR, markFrZ]
            | 6, _ => simp [updR, markFrZ]
            | 7, _ => simp [updR, markFrZ]
            | 8, _ => simp [updR, markFrZ]
          · simp [updR, e]
        · intro G hG
          obtain rfl : g = G := Option.some.inj (hG (by omega))
          exact grownG_set (grownG_set (grownG_set (grownG_set (G3.out) (k * 9 + 5) (.string (markT (zn + 5)))) (k * 9 + 6) (.bool (((zn : Int) + 1 + 1 + 1 + 1 + 1 + 1) % 3 == 0))) (k * 9 + 7) (.bool (((zn : Int) + 1 + 1 + 1 + 1 + 1 + 1 + 1) % 3 == 0))) (k * 9 + 8) (.int .i64 ((zn : Int) + 1 + 1 + 1 + 1 + 1 + 1 + 1 + 1))
      case measure => simp [intOf]; omega
    · obtain rfl : k = n := by omega
      have HS : Hid (SliceR wr B 9 (.slice p k cap) k (markFrC q)) := SliceR.congr HR.out (fun j hj o ho => by unfold markedF; rw [if_pos hj])
      go_wp2
      go_ret
      exact ⟨rfl, HS.out, HB.out⟩
set_option maxRecDepth 10000 in
set_option maxHeartbeats 8000000 in
theorem heldFrameS_any (a : Value) (n B q : Nat) (w : World) (ha : SliceR w B 9 a n (markFrC q)) (hn : n ≤ 1048576) (hq : 0 < q) (hq2 : q ≤ 20971520) :
    Calls Tryd.prog 39 #[a, .int .i64 (q : Int)] w fun e w' => e = .returned (.int .i64 ((q + n * 9 : Nat) : Int)) ∧ Below w.heap.size w w' := by
  obtain ⟨p, cap, rfl, h1⟩ := ha
  have HG : Hid (0 < n → ∃ g, p = some ⟨g, 0, none⟩ ∧ B ≤ g ∧ g < w.heap.size ∧ ∀ j, j < n → ∀ o, o < 9 → w.cell? ⟨g, j * 9 + o, none⟩ = some (markFrC q j o) ∧ w.frozen? ⟨g, j * 9 + o, none⟩ = false) := h1
  clear h1
  have HM : Hid (∀ (m : Nat) (W : World), 0 < m → m ≤ 9223372036854775807 → Calls Tryd.prog 38 #[.int .i64 (m : Int)] W fun e w' => e = .returned (.string (markT m)) ∧ Below W.heap.size W w') := fun m W h1 h2 => markText_any m W h1 h2
  go_enter Tryd.func39, Tryd.ntmps39
  go_wp2
  go_loopw [1, 4, 5] (fun kk r i wr => ∃ k : Nat, k ≤ n ∧ i = .int .i64 k ∧ kk = .int .i64 ((q + k * 9 : Nat) : Int) ∧ Hid (Below w.heap.size w wr)) (fun _ _ i _ => n - (intOf i).toNat)
  case atStart => exact ⟨0, by omega, rfl, by go_num, Below.refl _ _⟩
  case round =>
    obtain ⟨k, hk, rfl, rfl, HB⟩ := hrel
    by_cases hlt : k < n
    · obtain ⟨g, rfl, -, hg, hc⟩ := HG.out (by omega)
      have k0 : (0 : Int) ≤ k := by omega
      have k1 : (k : Int) < n := by omega
      have hgr : g < wr.heap.size := Nat.lt_of_lt_of_le hg HB.out.size
      have hzb : q + k * 9 ≤ 50000000 := by omega
      have hz0 : 0 < q + k * 9 := by omega
      have hx : ∀ o, o < 9 → wr.cell? ⟨g, k * 9 + o, none⟩ = some (markFrZ (q + k * 9) o) := fun o ho => by rw [(bcell HB.out).1 _ _ hg]; exact (hc k hlt o ho).1
      have HNX : Hid (((q + k * 9 : Nat) : Int) + 9 = ((q + (k + 1) * 9 : Nat) : Int)) := by show _ = _; omega
      clear hc
      generalize q + k * 9 = zn at *
      have c0 : wr.cell? ⟨g, k * 9, none⟩ = some (.int .i64 ((zn : Int))) := hx 0 (by omega)
      have c1 : wr.cell? ⟨g, k * 9 + 1, none⟩ = some (.int .i64 ((zn : Int) + 1)) := hx 1 (by omega)
      have c2 : wr.cell? ⟨g, k * 9 + 2, none⟩ = some (.string (markT (zn + 2))) := hx 2 (by omega)
      have c3 : wr.cell? ⟨g, k * 9 + 3, none⟩ = some (.string (markT (zn + 3))) := hx 3 (by omega)
      have c4 : wr.cell? ⟨g, k * 9 + 4, none⟩ = some (.int .i64 ((zn : Int) + 1 + 1 + 1 + 1)) := hx 4 (by omega)
      have c5 : wr.cell? ⟨g, k * 9 + 5, none⟩ = some (.string (markT (zn + 5))) := hx 5 (by omega)
      have c6 : wr.cell? ⟨g, k * 9 + 6, none⟩ = some (.bool (((zn : Int) + 1 + 1 + 1 + 1 + 1 + 1) % 3 == 0)) := hx 6 (by omega)
      have c7 : wr.cell? ⟨g, k * 9 + 7, none⟩ = some (.bool (((zn : Int) + 1 + 1 + 1 + 1 + 1 + 1 + 1) % 3 == 0)) := hx 7 (by omega)
      have c8 : wr.cell? ⟨g, k * 9 + 8, none⟩ = some (.int .i64 ((zn : Int) + 1 + 1 + 1 + 1 + 1 + 1 + 1 + 1)) := hx 8 (by omega)
      have HN2 : Hid (∀ W, Calls Tryd.prog 38 #[.int .i64 ((zn : Int) + 1 + 1)] W fun e w' => e = .returned (.string (markT (zn + 2))) ∧ Below W.heap.size W w') := fun W => by
        have h := HM.out (zn + 2) W (by omega) (by omega)
        have e : ((zn + 2 : Nat) : Int) = (zn : Int) + 1 + 1 := by omega
        rw [e] at h; exact h
      have HN3 : Hid (∀ W, Calls Tryd.prog 38 #[.int .i64 ((zn : Int) + 1 + 1 + 1)] W fun e w' => e = .returned (.string (markT (zn + 3))) ∧ Below W.heap.size W w') := fun W => by
        have h := HM.out (zn + 3) W (by omega) (by omega)
        have e : ((zn + 3 : Nat) : Int) = (zn : Int) + 1 + 1 + 1 := by omega
        rw [e] at h; exact h
      have HN5 : Hid (∀ W, Calls Tryd.prog 38 #[.int .i64 ((zn : Int) + 1 + 1 + 1 + 1 + 1)] W fun e w' => e = .returned (.string (markT (zn + 5))) ∧ Below W.heap.size W w') := fun W => by
        have h := HM.out (zn + 5) W (by omega) (by omega)
        have e : ((zn + 5 : Nat) : Int) = (zn : Int) + 1 + 1 + 1 + 1 + 1 := by omega
        rw [e] at h; exact h
      generalize markT (zn + 2) = t2 at *
      generalize markT (zn + 3) = t3 at *
      generalize markT (zn + 5) = t5 at *
      clear hx HM
      go_wp2_with fail
      go_region_held3 (fun w' => w'.cell? ⟨g, k * 9 + 2, none⟩ = some (.string t2) ∧ w'.cell? ⟨g, k * 9 + 3, none⟩ = some (.string t3) ∧ w'.cell? ⟨g, k * 9 + 4, none⟩ = some (.int .i64 ((zn : Int) + 1 + 1 + 1 + 1)) ∧ w'.cell? ⟨g, k * 9 + 5, none⟩ = some (.string t5) ∧ w'.cell? ⟨g, k * 9 + 6, none⟩ = some (.bool (((zn : Int) + 1 + 1 + 1 + 1 + 1 + 1) % 3 == 0)) ∧ w'.cell? ⟨g, k * 9 + 7, none⟩ = some (.bool (((zn : Int) + 1 + 1 + 1 + 1 + 1 + 1 + 1) % 3 == 0)) ∧ w'.cell? ⟨g, k * 9 + 8, none⟩ = some (.int .i64 ((zn : Int) + 1 + 1 + 1 + 1 + 1 + 1 + 1 + 1))) (go_keep)
        (first | (go_at_call 38; refine (HN2.out _).mono ?_; rintro e u1 ⟨rfl, hb1⟩; have A1 : Below wr.heap.size wr u1 := (Below.drew (Below.refl _ _)).trans hb1; have g1 : g < u1.heap.size := Nat.lt_of_lt_of_le hgr A1.size; have E1 : Hid (Below w.heap.size w u1) := HB.out.trans (A1.mono HB.out.size); have d1_2 : u1.cell? ⟨g, k * 9 + 2, none⟩ = some (.string t2) := ((bcell A1).1 _ _ hgr).trans c2; have d1_3 : u1.cell? ⟨g, k * 9 + 3, none⟩ = some (.string t3) := ((bcell A1).1 _ _ hgr).trans c3; have d1_4 : u1.cell? ⟨g, k * 9 + 4, none⟩ = some (.int .i64 ((zn : Int) + 1 + 1 + 1 + 1)) := ((bcell A1).1 _ _ hgr).trans c4; have d1_5 : u1.cell? ⟨g, k * 9 + 5, none⟩ = some (.string t5) := ((bcell A1).1 _ _ hgr).trans c5; have d1_6 : u1.cell? ⟨g, k * 9 + 6, none⟩ = some (.bool (((zn : Int) + 1 + 1 + 1 + 1 + 1 + 1) % 3 == 0)) := ((bcell A1).1 _ _ hgr).trans c6; have d1_7 : u1.cell? ⟨g, k * 9 + 7, none⟩ = some (.bool (((zn : Int) + 1 + 1 + 1 + 1 + 1 + 1 + 1) % 3 == 0)) := ((bcell A1).1 _ _ hgr).trans c7; have d1_8 : u1.cell? ⟨g, k * 9 + 8, none⟩ = some (.int .i64 ((zn : Int) + 1 + 1 + 1 + 1 + 1 + 1 + 1 + 1)) := ((bcell A1).1 _ _ hgr).trans c8))
      clear hb1 A1 c0 c1 c2 c3 c4 c5 c6 c7 c8
      go_wp2_with fail
      go_region_held3 (fun w' => w'.cell? ⟨g, k * 9 + 3, none⟩ = some (.string t3) ∧ w'.cell? ⟨g, k * 9 + 4, none⟩ = some (.int .i64 ((zn : Int) + 1 + 1 + 1 + 1)) ∧ w'.cell? ⟨g, k * 9 + 5, none⟩ = some (.string t5) ∧ w'.cell? ⟨g, k * 9 + 6, none⟩ = some (.bool (((zn : Int) + 1 + 1 + 1 + 1 + 1 + 1) % 3 == 0)) ∧ w'.cell? ⟨g, k * 9 + 7, none⟩ = some (.bool (((zn : Int) + 1 + 1 + 1 + 1 + 1 + 1 + 1) % 3 == 0)) ∧ w'.cell? ⟨g, k * 9 + 8, none⟩ = some (.int .i64 ((zn : Int) + 1 + 1 + 1 + 1 + 1 + 1 + 1 + 1))) (go_keep)
        (first | (go_at_call 38; refine (HN3.out _).mono ?_; rintro e u2 ⟨rfl, hb2⟩; have A2 : Below u1.heap.size u1 u2 := (Below.drew (Below.refl _ _)).trans hb2; have g2 : g < u2.heap.size := Nat.lt_of_lt_of_le g1 A2.size; have E2 : Hid (Below w.heap.size w u2) := E1.out.trans (A2.mono E1.out.size); have d2_3 : u2.cell? ⟨g, k * 9 + 3, none⟩ = some (.string t3) := ((bcell A2).1 _ _ g1).trans d1_3; have d2_4 : u2.cell? ⟨g, k * 9 + 4, none⟩ = some (.int .i64 ((zn : Int) + 1 + 1 + 1 + 1)) := ((bcell A2).1 _ _ g1).trans d1_4; have d2_5 : u2.cell? ⟨g, k * 9 + 5, none⟩ = some (.string t5) := ((bcell A2).1 _ _ g1).trans d1_5; have d2_6 : u2.cell? ⟨g, k * 9 + 6, none⟩ = some (.bool (((zn : Int) + 1 + 1 + 1 + 1 + 1 + 1) % 3 == 0)) := ((bcell A2).1 _ _ g1).trans d1_6; have d2_7 : u2.cell? ⟨g, k * 9 + 7, none⟩ = some (.bool (((zn : Int) + 1 + 1 + 1 + 1 + 1 + 1 + 1) % 3 == 0)) := ((bcell A2).1 _ _ g1).trans d1_7; have d2_8 : u2.cell? ⟨g, k * 9 + 8, none⟩ = some (.int .i64 ((zn : Int) + 1 + 1 + 1 + 1 + 1 + 1 + 1 + 1)) := ((bcell A2).1 _ _ g1).trans d1_8))
      clear hb2 A2 d1_2 d1_3 d1_4 d1_5 d1_6 d1_7 d1_8
      go_wp2_with fail
      go_region_held3 (fun w' => w'.cell? ⟨g, k * 9 + 5, none⟩ = some (.string t5) ∧ w'.cell? ⟨g, k * 9 + 6, none⟩ = some (.bool (((zn : Int) + 1 + 1 + 1 + 1 + 1 + 1) % 3 == 0)) ∧ w'.cell? ⟨g, k * 9 + 7, none⟩ = some (.bool (((zn : Int) + 1 + 1 + 1 + 1 + 1 + 1 + 1) % 3 == 0)) ∧ w'.cell? ⟨g, k * 9 + 8, none⟩ = some (.int .i64 ((zn : Int) + 1 + 1 + 1 + 1 + 1 + 1 + 1 + 1))) (go_keep)
        (first | (go_at_call 38; refine (HN5.out _).mono ?_; rintro e u3 ⟨rfl, hb3⟩; have A3 : Below u2.heap.size u2 u3 := (Below.drew (Below.refl _ _)).trans hb3; have g3 : g < u3.heap.size := Nat.lt_of_lt_of_le g2 A3.size; have E3 : Hid (Below w.heap.size w u3) := E2.out.trans (A3.mono E2.out.size); have d3_5 : u3.cell? ⟨g, k * 9 + 5, none⟩ = some (.string t5) := ((bcell A3).1 _ _ g2).trans d2_5; have d3_6 : u3.cell? ⟨g, k * 9 + 6, none⟩ = some (.bool (((zn : Int) + 1 + 1 + 1 + 1 + 1 + 1) % 3 == 0)) := ((bcell A3).1 _ _ g2).trans d2_6; have d3_7 : u3.cell? ⟨g, k * 9 + 7, none⟩ = some (.bool (((zn : Int) + 1 + 1 + 1 + 1 + 1 + 1 + 1) % 3 == 0)) := ((bcell A3).1 _ _ g2).trans d2_7; have d3_8 : u3.cell? ⟨g, k * 9 + 8, none⟩ = some (.int .i64 ((zn : Int) + 1 + 1 + 1 + 1 + 1 + 1 + 1 + 1)) := ((bcell A3).1 _ _ g2).trans d2_8))
      clear hb3 A3 d2_3 d2_4 d2_5 d2_6 d2_7 d2_8
      go_wp2
      go_roundw
      case rel => exact ⟨k + 1, by omega, by go_num, val_int (by have := HNX.out; omega), E3⟩
      case measure => simp [intOf]; omega
    · obtain rfl : k = n := by omega
      go_wp2
      go_ret
      exact ⟨rfl, HB.out⟩
end Go.Proofs.YtclpamjgglfljaaDoor

/- Slices of structs while others are marked. -/
namespace Go.Proofs.YtclpamjgglfljaaDoor
open Go.RowKit

theorem SliceR.place {w : World} {B sz n : Nat} {v : Value} {f : Nat → Nat → Value} (h : SliceR w B sz v n f) : 0 < n → ∃ g, v.ownBlock = some g ∧ B ≤ g ∧ g < w.heap.size := by
  obtain ⟨p, cap, rfl, h⟩ := h
  intro hn
  obtain ⟨g, rfl, hB, hg, -⟩ := h hn
  exact ⟨g, rfl, hB, hg⟩
theorem SliceR.keepG {w w' : World} {B sz n G : Nat} {v : Value} {f : Nat → Nat → Value} (h : SliceR w B sz v n f) (hg : w.grownBy w' (some G)) (hne : 0 < n → ∃ g, v.ownBlock = some g ∧ g ≠ G) : SliceR w' B sz v n f := by
  obtain ⟨p, cap, rfl, h⟩ := h
  refine ⟨p, cap, rfl, fun hn => ?_⟩
  obtain ⟨g, rfl, hB, hgw, hc⟩ := h hn
  obtain ⟨g', e, hn'⟩ := hne hn
  obtain rfl : g = g' := Option.some.inj e
  have hb : w'.heap[g]? = w.heap[g]? := hg.block g hgw (fun e => hn' (Option.some.inj e))
  refine ⟨g, rfl, hB, Nat.lt_of_lt_of_le hgw hg.size, fun j hj o ho => ⟨?_, ?_⟩⟩
  · rw [World.cell?_of_block (a := ⟨g, j * sz + o, none⟩) hb]; exact (hc j hj o ho).1
  · rw [World.frozen?_of_block (a := ⟨g, j * sz + o, none⟩) hb]; exact (hc j hj o ho).2
end Go.Proofs.YtclpamjgglfljaaDoor

/- Slices of frames while others are marked. -/
namespace Go.Proofs.YtclpamjgglfljaaDoor
open Go.RowKit

theorem SliceF.keepG {w w' : World} {B G : Nat} {v : Value} {L : List Fr} (h : SliceF w B v L) (hg : w.grownBy w' (some G)) (hne : 0 < L.length → ∃ g, v.ownBlock = some g ∧ g ≠ G) : SliceF w' B v L := ⟨h.1.keepG hg hne, h.2⟩
theorem markF_call (a : Value) (L : List Fr) (B : Nat) (w : World) (ha : SliceF w B a L) (hB : B ≤ w.heap.size) (hn : L.length ≤ 1048576) :
    Calls Tryd.prog 16 #[a, .int .i64 1] w fun e w' => e = .returned (.int .i64 ((1 + L.length * 9 : Nat) : Int)) ∧ SliceR w' B 9 a L.length (markFrC 1) ∧ ∃ G, B ≤ G ∧ (0 < L.length → a.ownBlock = some G) ∧ (¬ 0 < L.length → w.heap.size ≤ G) ∧ w.grownBy w' (some G) := by
  refine (markFrameS_any a L.length B 1 _ w ha.1 hn (by decide) (by decide)).mono ?_
  rintro e w' ⟨rfl, h2, h3⟩
  refine ⟨rfl, h2, ?_⟩
  by_cases h0 : 0 < L.length
  · obtain ⟨g, e, hBg, -⟩ := ha.1.place h0
    exact ⟨g, hBg, fun _ => e, fun h => absurd h0 h, h3 g (fun _ => e)⟩
  · exact ⟨w.heap.size, hB, fun h => absurd h h0, fun _ => Nat.le_refl _, h3 _ (fun h => absurd h h0)⟩
end Go.Proofs.YtclpamjgglfljaaDoor

/- The laws' eqFramesOut, markFramesOut, heldFramesOut; an answer in its box. -/
namespace Go.Proofs.YtclpamjgglfljaaDoor
open Go.RowKit

set_option maxRecDepth 10000 in
set_option maxHeartbeats 4000000 in
theorem eqFO_any (a b : Value) (Z : FO) (B B' : Nat) (w : World) (ha : SliceF w B a Z.ar) (hb : SliceF w B' b Z.ar) (hn : Z.ar.length ≤ 1048576) :
    Calls Tryd.prog 13 #[.agg #[a, .int .i64 Z.id, .int .i64 Z.co], .agg #[b, .int .i64 Z.id, .int .i64 Z.co]] w fun e w' => e = .returned (.bool true) ∧ Below w.heap.size w w' := by
  have KE : Hid (∀ W, Below w.heap.size w W → Calls Tryd.prog 14 #[a, b] W fun e w' => e = .returned (.bool true) ∧ Below W.heap.size W w') := fun W h => eqFrameS_any a b Z.ar B B' W (ha.below h) (hb.below h) hn
  obtain ⟨p, ca, hva⟩ : ∃ p ca, a = .slice p Z.ar.length ca := by obtain ⟨⟨p, cap, e, -⟩, -⟩ := ha; exact ⟨p, cap, e⟩
  obtain ⟨q, cb, hvb⟩ : ∃ q cb, b = .slice q Z.ar.length cb := by obtain ⟨⟨p, cap, e, -⟩, -⟩ := hb; exact ⟨p, cap, e⟩
  clear ha hb
  generalize Z.ar.length = m at *
  obtain ⟨za, zv, zc⟩ := Z
  dsimp only at *
  subst hva hvb
  obtain ⟨W0, hW⟩ : ∃ W0, W0 = (w.alloc (.cells #[.slice p m ca, .int .i64 zv, .int .i64 zc] 31)).alloc (.cells #[.slice q m cb, .int .i64 zv, .int .i64 zc] 31) := ⟨_, rfl⟩
  have hW0 : Hid (W0 = (w.alloc (.cells #[.slice p m ca, .int .i64 zv, .int .i64 zc] 31)).alloc (.cells #[.slice q m cb, .int .i64 zv, .int .i64 zc] 31)) := hW
  have B0 : Hid (Below w.heap.size w W0) := by
    show Below _ _ _
    rw [hW]; exact ((Below.refl _ _).alloc (Nat.le_refl _) _).alloc (by simp) _
  have c0 : W0.cell? ⟨w.heap.size, 0, none⟩ = some (.slice p m ca) := by rw [hW]; simp
  have c1 : W0.cell? ⟨w.heap.size, 1, none⟩ = some (.int .i64 zv) := by rw [hW]; simp
  have c2 : W0.cell? ⟨w.heap.size, 2, none⟩ = some (.int .i64 zc) := by rw [hW]; simp
  have d0 : W0.cell? ⟨w.heap.size + 1, 0, none⟩ = some (.slice q m cb) := by rw [hW]; exact (World.cell?_alloc_at _ _ _ _ (by simp)).trans rfl
  have d1 : W0.cell? ⟨w.heap.size + 1, 1, none⟩ = some (.int .i64 zv) := by rw [hW]; exact (World.cell?_alloc_at _ _ _ _ (by simp)).trans rfl
  have d2 : W0.cell? ⟨w.heap.size + 1, 2, none⟩ = some (.int .i64 zc) := by rw [hW]; exact (World.cell?_alloc_at _ _ _ _ (by simp)).trans rfl
  have z1 : w.heap.size + 1 < W0.heap.size := by rw [hW]; simp
  clear hW
  go_enter Tryd.func13, Tryd.ntmps13
  go_upto_region 1 with fail
  rw [← hW0.out]
  clear hW0
  generalize hbb : w.heap.size = b at *
  have z0 : b < W0.heap.size := by omega
  go_wp2_with fail
  refine (KE.out _ B0.out).mono ?_
  rintro e w1 ⟨rfl, hb1⟩
  have e1 : w1.cell? ⟨b, 1, none⟩ = some (.int .i64 zv) := ((bcell hb1).1 _ _ z0).trans c1
  have e2 : w1.cell? ⟨b, 2, none⟩ = some (.int .i64 zc) := ((bcell hb1).1 _ _ z0).trans c2
  have f1 : w1.cell? ⟨b + 1, 1, none⟩ = some (.int .i64 zv) := ((bcell hb1).1 _ _ z1).trans d1
  have f2 : w1.cell? ⟨b + 1, 2, none⟩ = some (.int .i64 zc) := ((bcell hb1).1 _ _ z1).trans d2
  have B1 : Hid (Below b w w1) := B0.out.trans (hb1.mono (by omega))
  clear hb1
  go_wp2
  go_ret
  exact ⟨rfl, by rw [hbb]; exact B1.out⟩
set_option maxRecDepth 10000 in
set_option maxHeartbeats 4000000 in
theorem markFO_call (a : Value) (zv : Int) (zc : Int) (L : List Fr) (B : Nat) (w : World) (ha : SliceF w B a L) (hB : B ≤ w.heap.size) (hn : L.length ≤ 1048576) :
    Calls Tryd.prog 18 #[.agg #[a, .int .i64 zv, .int .i64 zc], .int .i64 1] w fun e w' => e = .returned (.int .i64 ((1 + L.length * 9 : Nat) : Int)) ∧ SliceR w' B 9 a L.length (markFrC 1) ∧ ∃ G, B ≤ G ∧ (0 < L.length → a.ownBlock = some G) ∧ (¬ 0 < L.length → w.heap.size ≤ G) ∧ w.grownBy w' (some G) := by
  obtain ⟨p, ca, hva⟩ : ∃ p ca, a = .slice p L.length ca := by obtain ⟨⟨p, cap, e, -⟩, -⟩ := ha; exact ⟨p, cap, e⟩
  have KM : Hid (∀ W, Below w.heap.size w W → Calls Tryd.prog 16 #[a, .int .i64 1] W fun e w' => e = .returned (.int .i64 ((1 + L.length * 9 : Nat) : Int)) ∧ SliceR w' B 9 a L.length (markFrC 1) ∧ ∃ G, B ≤ G ∧ (0 < L.length → a.ownBlock = some G) ∧ (¬ 0 < L.length → W.heap.size ≤ G) ∧ W.grownBy w' (some G)) := fun W hb => markF_call a L B W (ha.below hb) (Nat.le_trans hB hb.size) hn
  clear ha
  have hq : Hid (((1 + L.length * 9 : Nat) : Int) = ((1 + L.length * 9 : Nat) : Int)) := rfl
  generalize hm : ((1 + L.length * 9 : Nat) : Int) = mq at *
  subst hva
  go_enter Tryd.func18, Tryd.ntmps18
  go_wp2_with fail
  refine (KM.out _ ((Below.refl _ _).alloc (Nat.le_refl _) _)).mono ?_
  rintro e w1 ⟨rfl, hr, G, h1, h2, h3, hg⟩
  have HF : Hid (SliceR w1 B 9 (.slice p L.length ca) L.length (markFrC 1) ∧ ∃ G, B ≤ G ∧ (0 < L.length → (Value.slice p L.length ca).ownBlock = some G) ∧ (¬ 0 < L.length → w.heap.size ≤ G) ∧ w.grownBy w1 (some G)) := ⟨hr, G, h1, h2, fun h => Nat.le_trans (by simp) (h3 h), (World.grownBy_alloc w _ (some G)).andThen hg (fun j hj => .inr hj)⟩
  clear hr h1 h2 h3 hg
  go_wp2
  go_ret
  exact ⟨rfl, HF.out⟩
set_option maxRecDepth 10000 in
set_option maxHeartbeats 4000000 in
theorem heldFO_any (a : Value) (zv : Int) (zc : Int) (n B : Nat) (w : World) (ha : SliceR w B 9 a n (markFrC 1)) (hn : n ≤ 1048576) :
    Calls Tryd.prog 19 #[.agg #[a, .int .i64 zv, .int .i64 zc], .int .i64 1] w fun e w' => e = .returned (.int .i64 ((1 + n * 9 : Nat) : Int)) ∧ Below w.heap.size w w' := by
  obtain ⟨p, ca, hva⟩ : ∃ p ca, a = .slice p n ca := by obtain ⟨p, cap, e, -⟩ := ha; exact ⟨p, cap, e⟩
  have KM : Hid (∀ W, Below w.heap.size w W → Calls Tryd.prog 39 #[a, .int .i64 1] W fun e w' => e = .returned (.int .i64 ((1 + n * 9 : Nat) : Int)) ∧ Below W.heap.size W w') := fun W hb => heldFrameS_any a n B 1 W (SliceR.below ha hb) hn (by decide) (by decide)
  clear ha
  have hm1 : decide ((((1 + n * 9 : Nat) : Int)) < 0) = false := by rw [decide_eq_false_iff_not]; omega
  generalize hm : ((1 + n * 9 : Nat) : Int) = mq at *
  subst hva
  go_enter Tryd.func19, Tryd.ntmps19
  go_wp2_with fail
  refine (KM.out _ ((Below.refl _ _).alloc (Nat.le_refl _) _)).mono ?_
  rintro e w1 ⟨rfl, hb⟩
  have HF : Hid (Below w.heap.size w w1) := ((Below.refl _ _).alloc (Nat.le_refl _) _).trans (hb.mono (by simp))
  clear hb
  go_wp2
  go_ret
  exact ⟨rfl, HF.out⟩
/-- an answer lies in its box -/
def InBoxF (W : World) (b : Nat) (s : Value) (Z : FO) : Prop := W.cell? ⟨b, 0, none⟩ = some s ∧ W.cell? ⟨b, 1, none⟩ = some (.int .i64 Z.id) ∧ W.cell? ⟨b, 2, none⟩ = some (.int .i64 Z.co) ∧ b < W.heap.size
theorem InBoxF.below {W W' : World} {b : Nat} {s : Value} {Z : FO} (h : InBoxF W b s Z) (hb : Below W.heap.size W W') : InBoxF W' b s Z :=
  ⟨((bcell hb).1 _ _ h.2.2.2).trans h.1, ((bcell hb).1 _ _ h.2.2.2).trans h.2.1, ((bcell hb).1 _ _ h.2.2.2).trans h.2.2.1, Nat.lt_of_lt_of_le h.2.2.2 hb.size⟩
theorem InBoxF.grown {W W' : World} {b G : Nat} {s : Value} {Z : FO} (h : InBoxF W b s Z) (hg : W.grownBy W' (some G)) (hne : b ≠ G) : InBoxF W' b s Z := by
  have hb : W'.heap[b]? = W.heap[b]? := hg.block b h.2.2.2 (fun e => hne (Option.some.inj e))
  exact ⟨(World.cell?_of_block (a := ⟨b, 0, none⟩) hb).trans h.1, (World.cell?_of_block (a := ⟨b, 1, none⟩) hb).trans h.2.1, (World.cell?_of_block (a := ⟨b, 2, none⟩) hb).trans h.2.2.1, Nat.lt_of_lt_of_le h.2.2.2 hg.size⟩
theorem inBoxF_made (W : World) (s : Value) (Z : FO) (t : TypeId) : InBoxF (W.alloc (.cells #[s, .int .i64 Z.id, .int .i64 Z.co] t)) W.heap.size s Z := ⟨by simp, by simp, by simp, by simp⟩
end Go.Proofs.YtclpamjgglfljaaDoor

/- The law FnExactFrameShut, walked. Written by lawshut.py. -/
namespace Go.Proofs.YtclpamjgglfljaaDoor
open Go.RowKit

set_option maxRecDepth 10000 in
set_option maxHeartbeats 8000000 in
theorem lawFrameShut_any (a : Option Addr) (cap : Nat) (L : List Fr) (id : Int) (w : World) (hG : MaxI w) (hr : FrRow w a L) (hn : L.length ≤ maxLen) :
    Calls Tryd.prog 4 #[.slice a L.length cap, .int .i64 id] w fun e w' => e = .returned (.bool true) ∧ Below w.heap.size w w' := by
  have HR : Hid (FrRow w a L) := hr
  have HE : Hid (MaxI w) := hG
  clear hr hG
  go_enter Tryd.func4, Tryd.ntmps4
  go_wp2_with fail
  refine (szFrameS_any a cap L 1048576 _ HR.out hn (by decide) (by decide)).mono ?_
  rintro e w0 ⟨⟨r, rfl, hr⟩, hb0⟩
  have B0 : Hid (Below w.heap.size w w0) := hb0
  clear hb0
  rcases hr with hr | ⟨r0, r1, hl, hf⟩
  · go_wp2
    go_ret
    exact ⟨rfl, B0.out⟩
  have q : decide (r < 0) = false := by rw [decide_eq_false_iff_not]; omega
  have HF : Hid (szF9 L) := hf
  clear hf r0 r1
  have KT : Hid (∀ W, Below w.heap.size w W → Calls Tryd.prog 9 #[.slice a L.length cap] W fun e w' => ∃ v, e = .returned v ∧ SliceF w' W.heap.size v L ∧ Below W.heap.size W w') := fun W hb => toFrameS_any a cap L W (HR.out.below hb) hl
  have KS : Hid (∀ (v : Value) (B : Nat) (W : World), SliceF W B v L → Calls Tryd.prog 20 #[v, .int .i64 id] W fun e w' => ∃ v', e = .returned v' ∧ AnsF w' W.heap.size v' (shutF L id) ∧ Below W.heap.size W w') := fun v B W s => specFrameShut_any v L B id W s hl
  have KI : Hid (∀ (v : Value) (B : Nat) (W : World), Below w.heap.size w W → SliceF W B v L → Calls Tryd.prog 21 #[v, .int .i64 id] W fun e w' => ∃ v', e = .returned v' ∧ AnsF w' W.heap.size v' (shutF L id) ∧ Below W.heap.size W w') := fun v B W a b => frameShut_any v L B id W (HE.out.on a) b hl (fun i hi => by have := HF.out i hi; omega)
  have hZ : (shutF L id).ar.length ≤ 17 := shutF_len L id
  clear HF HR HE
  generalize shutF L id = Z at *
  go_wp2_with fail
  refine (KT.out _ B0.out).mono ?_
  rintro e w1 ⟨v1, rfl, s1, hb1⟩
  have B1 : Hid (Below w.heap.size w w1) := B0.out.trans (hb1.mono B0.out.size)
  have S1 : Hid (SliceF w1 w0.heap.size v1 L) := s1
  clear s1 hb1
  go_wp2_with fail
  refine (KS.out _ _ _ S1.out).mono ?_
  rintro e w2 ⟨vs, rfl, ⟨ss, rfl, s2⟩, hb2⟩
  obtain ⟨pss, css, hvss⟩ : ∃ p c, ss = .slice p Z.ar.length c := by obtain ⟨⟨p, cap, e, -⟩, -⟩ := s2; exact ⟨p, cap, e⟩
  obtain ⟨W2, hW2⟩ : ∃ W, W = w2.alloc (.cells #[ss, .int .i64 Z.id, .int .i64 Z.co] 31) := ⟨_, rfl⟩
  have HW2 : Hid (W2 = w2.alloc (.cells #[ss, .int .i64 Z.id, .int .i64 Z.co] 31)) := hW2
  have AW2 : Below w2.heap.size w2 W2 := by rw [hW2]; exact (Below.refl _ _).alloc (Nat.le_refl _) _
  have Iss : Hid (InBoxF W2 w2.heap.size ss Z) := by show InBoxF _ _ _ _; rw [hW2]; exact inBoxF_made _ _ _ _
  have zW2 : w2.heap.size < W2.heap.size := by rw [hW2]; simp
  have B2 : Hid (Below w.heap.size w W2) := (B1.out.trans (hb2.mono B1.out.size)).trans (AW2.mono (Nat.le_trans B1.out.size hb2.size))
  have SS : Hid (SliceF W2 w1.heap.size ss Z.ar) := s2.below AW2
  have P2 : Hid (0 < Z.ar.length → ∃ g, ss.ownBlock = some g ∧ w1.heap.size ≤ g ∧ g < w2.heap.size) := s2.1.place
  have z12 : w1.heap.size ≤ w2.heap.size := hb2.size
  clear s2 hb2 S1 KS AW2 hW2
  have hvs := hvss
  clear hvss
  subst hvs
  go_upto_region 6 with fail
  rw [← HW2.out]
  clear HW2
  go_wp2_with fail
  refine (KT.out _ B2.out).mono ?_
  rintro e w3 ⟨vx, rfl, s3, hb3⟩
  have B3 : Hid (Below w.heap.size w w3) := B2.out.trans (hb3.mono B2.out.size)
  have SS_w3 : Hid (SliceF w3 w1.heap.size (.slice pss Z.ar.length css) Z.ar) := SS.out.below hb3
  clear SS
  have Iss_w3 : Hid (InBoxF w3 w2.heap.size (.slice pss Z.ar.length css) Z) := Iss.out.below hb3
  clear Iss
  have SX : Hid (SliceF w3 W2.heap.size vx L) := s3
  have P3 : Hid (0 < L.length → ∃ g, vx.ownBlock = some g ∧ W2.heap.size ≤ g ∧ g < w3.heap.size) := s3.1.place
  have z23 : W2.heap.size ≤ w3.heap.size := hb3.size
  clear s3 hb3
  go_wp2_with fail
  refine (KI.out _ _ _ B3.out SX.out).mono ?_
  rintro e w4 ⟨vg, rfl, ⟨sg, rfl, s4⟩, hb4⟩
  obtain ⟨psg, csg, hvsg⟩ : ∃ p c, sg = .slice p Z.ar.length c := by obtain ⟨⟨p, cap, e, -⟩, -⟩ := s4; exact ⟨p, cap, e⟩
  obtain ⟨W4, hW4⟩ : ∃ W, W = w4.alloc (.cells #[sg, .int .i64 Z.id, .int .i64 Z.co] 31) := ⟨_, rfl⟩
  have HW4 : Hid (W4 = w4.alloc (.cells #[sg, .int .i64 Z.id, .int .i64 Z.co] 31)) := hW4
  have AW4 : Below w4.heap.size w4 W4 := by rw [hW4]; exact (Below.refl _ _).alloc (Nat.le_refl _) _
  have Isg : Hid (InBoxF W4 w4.heap.size sg Z) := by show InBoxF _ _ _ _; rw [hW4]; exact inBoxF_made _ _ _ _
  have zW4 : w4.heap.size < W4.heap.size := by rw [hW4]; simp
  have A4 : Below w3.heap.size w3 W4 := hb4.trans (AW4.mono hb4.size)
  have B4 : Hid (Below w.heap.size w W4) := B3.out.trans (A4.mono B3.out.size)
  have SS_W4 : Hid (SliceF W4 w1.heap.size (.slice pss Z.ar.length css) Z.ar) := SS_w3.out.below A4
  clear SS_w3
  have Iss_W4 : Hid (InBoxF W4 w2.heap.size (.slice pss Z.ar.length css) Z) := Iss_w3.out.below A4
  clear Iss_w3
  have SX_W4 : Hid (SliceF W4 W2.heap.size vx L) := SX.out.below A4
  clear SX
  have SG : Hid (SliceF W4 w3.heap.size sg Z.ar) := s4.below AW4
  have P4 : Hid (0 < Z.ar.length → ∃ g, sg.ownBlock = some g ∧ w3.heap.size ≤ g ∧ g < w4.heap.size) := s4.1.place
  have z34 : w3.heap.size ≤ w4.heap.size := hb4.size
  clear s4 hb4 AW4 hW4 A4
  have hvg := hvsg
  clear hvsg
  subst hvg
  go_upto_region 8 with fail
  rw [← HW4.out]
  clear HW4
  obtain ⟨u0, u1, u2, u3⟩ := Iss_W4.out
  obtain ⟨y0, y1, y2, y3⟩ := Isg.out
  go_wp2_with fail
  refine (eqFO_any (.slice psg Z.ar.length csg) (.slice pss Z.ar.length css) Z _ _ _ SG.out SS_W4.out (by omega)).mono ?_
  rintro e w5 ⟨rfl, hbw5⟩
  have Bw5 : Hid (Below w.heap.size w w5) := B4.out.trans (hbw5.mono B4.out.size)
  clear u0 u1 u2 u3
  clear y0 y1 y2 y3
  have SS_w5 : Hid (SliceF w5 w1.heap.size (.slice pss Z.ar.length css) Z.ar) := SS_W4.out.below hbw5
  clear SS_W4
  have Iss_w5 : Hid (InBoxF w5 w2.heap.size (.slice pss Z.ar.length css) Z) := Iss_W4.out.below hbw5
  clear Iss_W4
  have SX_w5 : Hid (SliceF w5 W2.heap.size vx L) := SX_W4.out.below hbw5
  clear SX_W4
  have SG_w5 : Hid (SliceF w5 w3.heap.size (.slice psg Z.ar.length csg) Z.ar) := SG.out.below hbw5
  clear SG
  have Isg_w5 : Hid (InBoxF w5 w4.heap.size (.slice psg Z.ar.length csg) Z) := Isg.out.below hbw5
  clear Isg
  have z45 : W4.heap.size ≤ w5.heap.size := hbw5.size
  clear hbw5
  go_wp2_with fail
  refine (KT.out _ Bw5.out).mono ?_
  rintro e w6 ⟨v6, rfl, s6, hb6⟩
  have B6 : Hid (Below w.heap.size w w6) := Bw5.out.trans (hb6.mono Bw5.out.size)
  have SS_w6 : Hid (SliceF w6 w1.heap.size (.slice pss Z.ar.length css) Z.ar) := SS_w5.out.below hb6
  clear SS_w5
  have Iss_w6 : Hid (InBoxF w6 w2.heap.size (.slice pss Z.ar.length css) Z) := Iss_w5.out.below hb6
  clear Iss_w5
  have SX_w6 : Hid (SliceF w6 W2.heap.size vx L) := SX_w5.out.below hb6
  clear SX_w5
  have SG_w6 : Hid (SliceF w6 w3.heap.size (.slice psg Z.ar.length csg) Z.ar) := SG_w5.out.below hb6
  clear SG_w5
  have Isg_w6 : Hid (InBoxF w6 w4.heap.size (.slice psg Z.ar.length csg) Z) := Isg_w5.out.below hb6
  clear Isg_w5
  have S6 : Hid (SliceF w6 w5.heap.size v6 L) := s6
  have z56 : w5.heap.size ≤ w6.heap.size := hb6.size
  clear hb6 s6
  go_wp2_with fail
  refine (eqFrameS_any vx v6 L _ _ _ SX_w6.out S6.out hl).mono ?_
  rintro e w7 ⟨rfl, hb7⟩
  have B7 : Hid (Below w.heap.size w w7) := B6.out.trans (hb7.mono B6.out.size)
  have SS_w7 : Hid (SliceF w7 w1.heap.size (.slice pss Z.ar.length css) Z.ar) := SS_w6.out.below hb7
  clear SS_w6
  have Iss_w7 : Hid (InBoxF w7 w2.heap.size (.slice pss Z.ar.length css) Z) := Iss_w6.out.below hb7
  clear Iss_w6
  have SX_w7 : Hid (SliceF w7 W2.heap.size vx L) := SX_w6.out.below hb7
  clear SX_w6
  have SG_w7 : Hid (SliceF w7 w3.heap.size (.slice psg Z.ar.length csg) Z.ar) := SG_w6.out.below hb7
  clear SG_w6
  have Isg_w7 : Hid (InBoxF w7 w4.heap.size (.slice psg Z.ar.length csg) Z) := Isg_w6.out.below hb7
  clear Isg_w6
  have z67 : w6.heap.size ≤ w7.heap.size := hb7.size
  clear hb7 S6
  go_wp2_with fail
  refine (markF_call vx L W2.heap.size w7 SX_w7.out (by omega) hl).mono ?_
  rintro e w8 ⟨rfl, -, G, hG1, hG2, hG3, hg8⟩
  have hGs : w2.heap.size ≠ G := by omega
  have hGg : w4.heap.size ≠ G := by
    by_cases h0 : 0 < L.length
    · obtain ⟨g', e', h1', h2'⟩ := P3.out h0
      have e2 := hG2 h0
      rw [e'] at e2
      have := Option.some.inj e2
      omega
    · have := hG3 h0; omega
  have SS_w8 : Hid (SliceF w8 w1.heap.size (.slice pss Z.ar.length css) Z.ar) := SliceF.keepG SS_w7.out hg8 (fun h => by obtain ⟨g, e, h1, h2⟩ := P2.out h; exact ⟨g, e, by omega⟩)
  have SG_w8 : Hid (SliceF w8 w3.heap.size (.slice psg Z.ar.length csg) Z.ar) := SliceF.keepG SG_w7.out hg8 (fun h => by
    obtain ⟨g, e, h1, h2⟩ := P4.out h
    refine ⟨g, e, ?_⟩
    by_cases h0 : 0 < L.length
    · obtain ⟨g', e', h1', h2'⟩ := P3.out h0
      have e2 := hG2 h0
      rw [e'] at e2
      have := Option.some.inj e2
      omega
    · have := hG3 h0; omega)
  have Iss_w8 : Hid (InBoxF w8 w2.heap.size (.slice pss Z.ar.length css) Z) := Iss_w7.out.grown hg8 hGs
  have Isg_w8 : Hid (InBoxF w8 w4.heap.size (.slice psg Z.ar.length csg) Z) := Isg_w7.out.grown hg8 hGg
  have B8 : Hid (Below w.heap.size w w8) := B7.out.grown hg8 B7.out.size (fun j hj => by have := Option.some.inj hj; have := B2.out.size; omega)
  have z78 : w7.heap.size ≤ w8.heap.size := hg8.size
  have hm0 : decide ((((1 + L.length * 9 : Nat) : Int)) < 0) = false := by rw [decide_eq_false_iff_not]; omega
  clear hg8 hG1 hG2 hG3 hGs hGg P3 SS_w7 Iss_w7 SX_w7 SG_w7 Isg_w7
  generalize ((1 + L.length * 9 : Nat) : Int) = mL at *
  obtain ⟨u0, u1, u2, u3⟩ := Iss_w8.out
  obtain ⟨y0, y1, y2, y3⟩ := Isg_w8.out
  go_wp2_with fail
  refine (eqFO_any (.slice psg Z.ar.length csg) (.slice pss Z.ar.length css) Z _ _ _ SG_w8.out SS_w8.out (by omega)).mono ?_
  rintro e w9 ⟨rfl, hbw9⟩
  have Bw9 : Hid (Below w.heap.size w w9) := B8.out.trans (hbw9.mono B8.out.size)
  clear u0 u1 u2 u3
  clear y0 y1 y2 y3
  have SS_w9 : Hid (SliceF w9 w1.heap.size (.slice pss Z.ar.length css) Z.ar) := SS_w8.out.below hbw9
  clear SS_w8
  have Iss_w9 : Hid (InBoxF w9 w2.heap.size (.slice pss Z.ar.length css) Z) := Iss_w8.out.below hbw9
  clear Iss_w8
  have SG_w9 : Hid (SliceF w9 w3.heap.size (.slice psg Z.ar.length csg) Z.ar) := SG_w8.out.below hbw9
  clear SG_w8
  have Isg_w9 : Hid (InBoxF w9 w4.heap.size (.slice psg Z.ar.length csg) Z) := Isg_w8.out.below hbw9
  clear Isg_w8
  have z89 : w8.heap.size ≤ w9.heap.size := hbw9.size
  clear hbw9
  obtain ⟨y0, y1, y2, y3⟩ := Isg_w9.out
  go_wp2_with fail
  refine (markFO_call (.slice psg Z.ar.length csg) Z.id Z.co Z.ar w3.heap.size w9 SG_w9.out (by omega) (by omega)).mono ?_
  rintro e w10 ⟨rfl, s10, G, hG1, hG2, hG3, hg10⟩
  clear y0 y1 y2 y3
  have hGs : w2.heap.size ≠ G := by omega
  have hGg : w4.heap.size ≠ G := by
    by_cases h0 : 0 < Z.ar.length
    · obtain ⟨g', e', h1', h2'⟩ := P4.out h0
      have e2 := hG2 h0
      rw [e'] at e2
      have := Option.some.inj e2
      omega
    · have := hG3 h0; omega
  have SS_w10 : Hid (SliceF w10 w1.heap.size (.slice pss Z.ar.length css) Z.ar) := SliceF.keepG SS_w9.out hg10 (fun h => by obtain ⟨g, e, h1, h2⟩ := P2.out h; exact ⟨g, e, by omega⟩)
  have Iss_w10 : Hid (InBoxF w10 w2.heap.size (.slice pss Z.ar.length css) Z) := Iss_w9.out.grown hg10 hGs
  have Isg_w10 : Hid (InBoxF w10 w4.heap.size (.slice psg Z.ar.length csg) Z) := Isg_w9.out.grown hg10 hGg
  have S10 : Hid (SliceR w10 w3.heap.size 9 (.slice psg Z.ar.length csg) Z.ar.length (markFrC 1)) := s10
  have B10 : Hid (Below w.heap.size w w10) := Bw9.out.grown hg10 Bw9.out.size (fun j hj => by have := Option.some.inj hj; have := B2.out.size; omega)
  have KH : Hid (∀ W, Below w10.heap.size w10 W → Calls Tryd.prog 19 #[.agg #[.slice psg Z.ar.length csg, .int .i64 Z.id, .int .i64 Z.co], .int .i64 1] W fun e w' => e = .returned (.int .i64 ((1 + Z.ar.length * 9 : Nat) : Int)) ∧ Below W.heap.size W w') := fun W hb => heldFO_any (.slice psg Z.ar.length csg) Z.id Z.co Z.ar.length _ W (SliceR.below S10.out hb) (by omega)
  have hm1 : decide ((((1 + Z.ar.length * 9 : Nat) : Int)) < 0) = false := by rw [decide_eq_false_iff_not]; omega
  clear hg10 hG1 hG2 hG3 hGs hGg s10 S10 P2 P4 SS_w9 Iss_w9 SG_w9 Isg_w9
  generalize ((1 + Z.ar.length * 9 : Nat) : Int) = mZ at *
  obtain ⟨y0, y1, y2, y3⟩ := Isg_w10.out
  go_wp2_with fail
  refine (KH.out _ (Below.refl _ _)).mono ?_
  rintro e w11 ⟨rfl, hb11⟩
  clear y0 y1 y2 y3
  have B11 : Hid (Below w.heap.size w w11) := B10.out.trans (hb11.mono B10.out.size)
  have A11 : Hid (Below w10.heap.size w10 w11) := hb11
  have SS_w11 : Hid (SliceF w11 w1.heap.size (.slice pss Z.ar.length css) Z.ar) := SS_w10.out.below hb11
  clear SS_w10
  have Iss_w11 : Hid (InBoxF w11 w2.heap.size (.slice pss Z.ar.length css) Z) := Iss_w10.out.below hb11
  clear Iss_w10
  have Isg_w11 : Hid (InBoxF w11 w4.heap.size (.slice psg Z.ar.length csg) Z) := Isg_w10.out.below hb11
  clear Isg_w10
  clear hb11
  go_wp2_with fail
  refine (KT.out _ B11.out).mono ?_
  rintro e w12 ⟨v12, rfl, s12, hb12⟩
  have B12 : Hid (Below w.heap.size w w12) := B11.out.trans (hb12.mono B11.out.size)
  have A12 : Hid (Below w10.heap.size w10 w12) := A11.out.trans (hb12.mono A11.out.size)
  have SS_w12 : Hid (SliceF w12 w1.heap.size (.slice pss Z.ar.length css) Z.ar) := SS_w11.out.below hb12
  clear SS_w11
  have Iss_w12 : Hid (InBoxF w12 w2.heap.size (.slice pss Z.ar.length css) Z) := Iss_w11.out.below hb12
  clear Iss_w11
  have Isg_w12 : Hid (InBoxF w12 w4.heap.size (.slice psg Z.ar.length csg) Z) := Isg_w11.out.below hb12
  clear Isg_w11
  have S12 : Hid (SliceF w12 w11.heap.size v12 L) := s12
  clear hb12 s12
  go_wp2_with fail
  refine (KI.out _ _ _ B12.out S12.out).mono ?_
  rintro e w13 ⟨vh, rfl, ⟨sh, rfl, s13⟩, hb13⟩
  obtain ⟨psh, csh, hvsh⟩ : ∃ p c, sh = .slice p Z.ar.length c := by obtain ⟨⟨p, cap, e, -⟩, -⟩ := s13; exact ⟨p, cap, e⟩
  obtain ⟨W13, hW13⟩ : ∃ W, W = w13.alloc (.cells #[sh, .int .i64 Z.id, .int .i64 Z.co] 31) := ⟨_, rfl⟩
  have HW13 : Hid (W13 = w13.alloc (.cells #[sh, .int .i64 Z.id, .int .i64 Z.co] 31)) := hW13
  have AW13 : Below w13.heap.size w13 W13 := by rw [hW13]; exact (Below.refl _ _).alloc (Nat.le_refl _) _
  have Ish : Hid (InBoxF W13 w13.heap.size sh Z) := by show InBoxF _ _ _ _; rw [hW13]; exact inBoxF_made _ _ _ _
  have zW13 : w13.heap.size < W13.heap.size := by rw [hW13]; simp
  have A13 : Below w12.heap.size w12 W13 := hb13.trans (AW13.mono hb13.size)
  have B13 : Hid (Below w.heap.size w W13) := B12.out.trans (A13.mono B12.out.size)
  have C13 : Hid (Below w10.heap.size w10 W13) := A12.out.trans (A13.mono A12.out.size)
  have SS_W13 : Hid (SliceF W13 w1.heap.size (.slice pss Z.ar.length css) Z.ar) := SS_w12.out.below A13
  clear SS_w12
  have Iss_W13 : Hid (InBoxF W13 w2.heap.size (.slice pss Z.ar.length css) Z) := Iss_w12.out.below A13
  clear Iss_w12
  have Isg_W13 : Hid (InBoxF W13 w4.heap.size (.slice psg Z.ar.length csg) Z) := Isg_w12.out.below A13
  clear Isg_w12
  have SH : Hid (SliceF W13 w12.heap.size sh Z.ar) := s13.below AW13
  clear s13 hb13 AW13 hW13 A13 S12
  have hvh := hvsh
  clear hvsh
  subst hvh
  go_upto_region 25 with fail
  rw [← HW13.out]
  clear HW13
  obtain ⟨x0, x1, x2, x3⟩ := Ish.out
  obtain ⟨u0, u1, u2, u3⟩ := Iss_W13.out
  go_wp2_with fail
  refine (eqFO_any (.slice psh Z.ar.length csh) (.slice pss Z.ar.length css) Z _ _ _ SH.out SS_W13.out (by omega)).mono ?_
  rintro e w14 ⟨rfl, hbw14⟩
  have Bw14 : Hid (Below w.heap.size w w14) := B13.out.trans (hbw14.mono B13.out.size)
  clear u0 u1 u2 u3
  clear x0 x1 x2 x3
  have SS_w14 : Hid (SliceF w14 w1.heap.size (.slice pss Z.ar.length css) Z.ar) := SS_W13.out.below hbw14
  clear SS_W13
  have Iss_w14 : Hid (InBoxF w14 w2.heap.size (.slice pss Z.ar.length css) Z) := Iss_W13.out.below hbw14
  clear Iss_W13
  have Isg_w14 : Hid (InBoxF w14 w4.heap.size (.slice psg Z.ar.length csg) Z) := Isg_W13.out.below hbw14
  clear Isg_W13
  have Ish_w14 : Hid (InBoxF w14 w13.heap.size (.slice psh Z.ar.length csh) Z) := Ish.out.below hbw14
  clear Ish
  have C14 : Hid (Below w10.heap.size w10 w14) := C13.out.trans (hbw14.mono C13.out.size)
  clear hbw14
  obtain ⟨y0, y1, y2, y3⟩ := Isg_w14.out
  go_wp2_with fail
  refine (KH.out _ C14.out).mono ?_
  rintro e w15 ⟨rfl, hb15⟩
  go_wp2
  go_ret
  exact ⟨rfl, Bw14.out.trans (hb15.mono Bw14.out.size)⟩
end Go.Proofs.YtclpamjgglfljaaDoor

/- The lifting of a law's walk to a row that lists package-level variables, the world's shape kept; what the shape and the list give a walk. -/
namespace Go.Proofs.YtclpamjgglfljaaDoor
open Go.RowKit

theorem Ld.own : ownKnob Tryd.prog.godebug = none := by kernel_rfl
theorem Ld.laidOut : laidOutB Tryd.prog = true := by kernel_rfl
set_option maxRecDepth 10000 in
theorem lift_laid {H : Type} {enc : TypeId × Value → H} {os : Os} {f : FuncId} {fn : Func} {s : ChangeSpec} {X : World → Prop} (hX : ∀ (w w' : World), w.heap = w'.heap → X w → X w')
    (started : os.Started) (noInit : Tryd.prog.inits.idxOf? f = none) (hfn : Tryd.prog.funcs[f]? = some fn)
    (start : ∃ (w : World) (tape : Tape) (i : Input), w.os = os ∧ (w.forCall tape i).Shaped Tryd.prog ∧ i.vars = [] ∧ Input.okWide Tryd.prog (w.forCall tape i) .any w.heap.size f i ∧
      ((s.pre enc Tryd.prog fn [] false (w.forCall tape i).memory i.args ∧ X (w.forCall tape i).memory) ∧ sizedMet enc Tryd.prog fn (OpenSpec.ofChange s) false (w.forCall tape i).memory i.args) ∧ Assume.holds {} Tryd.prog (lone (Frame.enter Tryd.prog f i.args .normal) [] (w.forCall tape i)))
    (walk : ∀ (W : World) (base : Nat) (args : Array Value) (ds gs : List (DataW H)) (before : List MemPlace),
      (∀ (j : Nat) t v, fn.params[j]? = some t → args[j]? = some v → Value.okWide Tryd.prog W .any base t v) →
      DataW.Whole enc Tryd.prog fn.params.toList s.vars false W args.toList ds gs before → X W → W.ShapedOpen Tryd.prog →
      Calls Tryd.prog f args W fun e W' => ∃ v, e = .returned v ∧ s.post enc Tryd.prog fn false true false false W args v W') :
    ReturnsInHanded {} Tryd.checked os f .any (fun w args => (s.pre enc Tryd.prog fn [] false w args ∧ X w) ∧ sizedMet enc Tryd.prog fn (OpenSpec.ofChange s) false w args) (s.post enc Tryd.prog fn false true false false) := by
  refine returnsInHanded_of_calls (C := Tryd.checked) Ld.own started noInit start ?_
  intro w tape i _ hsh _ hok hpre _
  obtain ⟨_, _, _, fn2, hfn2, _, _, _, _, hval⟩ := hok
  obtain rfl : fn2 = fn := Option.some.inj (hfn2.symm.trans hfn)
  obtain ⟨⟨⟨ds, gs, before, hw, _⟩, hx⟩, _⟩ := hpre
  have hw2 := DataW.Whole.of_heap (w' := w.forCall tape i) (by rfl) hw
  refine (walk (w.forCall tape i) w.heap.size i.args ds gs before hval hw2 (hX _ _ (by rfl) hx) hsh).mono fun e W' ⟨v, he, hp⟩ => ?_
  subst he
  exact ChangeSpec.post_blind hp
set_option maxRecDepth 10000 in
theorem maxI_of_shape {W : World} (h : W.ShapedOpen Tryd.prog) : MaxI W := Tryd.lays146.s1_3 W h
end Go.Proofs.YtclpamjgglfljaaDoor
