/- 17 of this claim's texts, one behind the other. -/
import Derived.Test.YtclpamjgglfljaaDoorPart2
import Derived.Test.YtclpamjgglfljaaDoorPart4
import Derived.Test.YtclpamjgglfljaaDoorPart1
import Derived.Deep.AppendLies
import Derived.Laws.OwnMore
import Derived.Maps.AppendAt
import Derived.Test.YtclpamjgglfljaaDoorPart3
import Derived.WalkKit
import Derived.WalkSpells
import Derived.WalkLawsBesides
import Derived.Lib.Split
import Derived.Deep.RegionHeld3
/- The walks of the specification's l09Top and FrameTop. Written by laws9.py. -/
namespace Go.Proofs.YtclpamjgglfljaaDoor
open Go.RowKit

/-- the top of a frame -/
def topFr (L : List Fr) (id : Int) : Fr := (wayF L id).getLastD frNone
def topF (L : List Fr) (id : Int) : Int := if (framesB L && hereF L id) = true then (topFr L id).id else 0
theorem topF_right {L : List Fr} (h : framesB L = true) (id : Int) : topF L id = (topFr L id).id := by
  unfold topF
  cases hh : hereF L id with
  | true => rw [h]; rfl
  | false => rw [Bool.and_false, if_neg (by decide)]; unfold topFr; rw [wayF_none hh]; rfl
theorem parent_here {L : List Fr} (h : framesB L = true) {k : Nat} (hk : k < L.length) (hp : (atF L k).pa ≠ 0) : ∃ j, j < k ∧ whF L (atF L k).pa = (j : Int) ∧ (atF L j).id = (atF L k).pa := by
  have hi := ids_of h
  have h1 := (framesB_parts h).2 k hk
  unfold okF at h1
  simp only [Bool.and_eq_true] at h1
  have h2 := h1.2
  unfold holdF at h2
  rw [Bool.or_eq_true, beq_iff_eq, decide_eq_true_eq] at h2
  rcases h2 with h2 | h2
  · exact absurd h2 hp
  · rcases whF_cases (L.take k) (atF L k).pa with ⟨j, hj, -, e1, -⟩ | ⟨e, -⟩
    · rw [List.length_take] at hj
      rw [atF_take (by omega) (by omega)] at e1
      exact ⟨j, by omega, by rw [← e1]; exact (getF_at hi (by omega)).1, e1⟩
    · omega
theorem here_at {L : List Fr} (h : framesB L = true) {k : Nat} (hk : k < L.length) : hereF L (atF L k).id = true ∧ getF L (atF L k).id = atF L k :=
  ⟨(hereF_iff _ _).2 ⟨k, hk, rfl⟩, (getF_at (ids_of h) hk).2⟩
theorem topFr_top {L : List Fr} (h : framesB L = true) {k : Nat} (hk : k < L.length) (hp : (atF L k).pa = 0) : topFr L (atF L k).id = atF L k := by
  obtain ⟨h1, h2⟩ := here_at h hk
  have h0 : hereF L 0 = false := by
    rw [Bool.eq_false_iff]
    intro h0
    obtain ⟨j, hj, e⟩ := (hereF_iff _ _).1 h0
    have := ((ids_of h) j hj).1
    omega
  unfold topFr
  rw [wayF_here h h1, h2, hp, wayF_none h0]
  rfl
theorem topFr_in {L : List Fr} (h : framesB L = true) {k j : Nat} (hk : k < L.length) (hj : j < L.length) (e : (atF L j).id = (atF L k).pa) : topFr L (atF L k).id = topFr L (atF L j).id := by
  obtain ⟨h1, h2⟩ := here_at h hk
  obtain ⟨h3, h4⟩ := here_at h hj
  unfold topFr
  rw [wayF_here h h1, h2, ← e, wayF_here h h3]
  simp [List.getLastD]
end Go.Proofs.YtclpamjgglfljaaDoor

/- Frames within a frame, and the walk of the specification's l09Within. -/
namespace Go.Proofs.YtclpamjgglfljaaDoor
open Go.RowKit

/-- is the frame within that one -/
def inF (L : List Fr) (id outer : Int) : Bool := (wayF L id).any (fun f => f.pa == outer)
theorem inF_none {L : List Fr} {id : Int} (outer : Int) (h : hereF L id = false) : inF L id outer = false := by unfold inF; rw [wayF_none h]; rfl
theorem inF_at {L : List Fr} (h : framesB L = true) {k : Nat} (hk : k < L.length) (outer : Int) : inF L (atF L k).id outer = ((atF L k).pa == outer || inF L (atF L k).pa outer) := by
  unfold inF
  rw [wayF_here h (here_at h hk).1, (here_at h hk).2, List.any_cons]
theorem zero_away {L : List Fr} (h : framesB L = true) : hereF L 0 = false := by
  rw [Bool.eq_false_iff]
  intro h0
  obtain ⟨j, hj, e⟩ := (hereF_iff _ _).1 h0
  have := ((ids_of h) j hj).1
  omega
set_option maxRecDepth 10000 in
set_option maxHeartbeats 4000000 in
theorem specWithin9_any (v : Value) (L : List Fr) (B : Nat) (id outer : Int) (w : World) (hs : SliceF w B v L) (hn : L.length ≤ 1048576) (hL : framesB L = true) :
    Calls Tryd.prog 64 #[v, .int .i64 id, .int .i64 outer] w fun e w' => e = .returned (.bool (inF L id outer)) ∧ w' = w := by
  have KA : Hid (∀ i, Calls Tryd.prog 40 #[v, .int .i64 i] w fun e w' => e = .returned (.int .i64 (whF L i)) ∧ w' = w) := fun i => specAt_any v L B i w hs hn
  have HL : Hid (framesB L = true) := hL
  obtain ⟨⟨p, cap, rfl, hg⟩, -⟩ := hs
  have HG : Hid (0 < L.length → ∃ g, p = some ⟨g, 0, none⟩ ∧ ∀ j, j < L.length → w.cell? ⟨g, j * 9 + 1, none⟩ = some (.int .i64 (atF L j).pa)) := fun h0 => by
    obtain ⟨g, e, -, hgw, hc⟩ := hg h0
    exact ⟨g, e, fun j hj => (hc j hj 1 (by omega)).1⟩
  have HS : Hid (hereF L id = true → 0 + (whF L id).toNat + 1 ≤ L.length) := fun hh => by
    obtain ⟨k0, hk0, ew, -, -⟩ := here_wh hh
    rw [ew]; omega
  clear hg hL
  go_enter Tryd.func64, Tryd.ntmps64
  go_wp2
  go_loopw [1, 7] (fun iv i wr => ∃ (x : Int) (n : Nat), iv = .int .i64 x ∧ i = .int .i64 n ∧ n ≤ L.length ∧ Hid (inF L id outer = inF L x outer) ∧ Hid (hereF L x = true → n + (whF L x).toNat + 1 ≤ L.length) ∧ Hid (wr = w)) (fun _ i _ => L.length + 1 - (intOf i).toNat)
  case atStart => exact ⟨id, 0, rfl, rfl, Nat.zero_le _, rfl, HS, rfl⟩
  case round =>
    obtain ⟨x, n, rfl, rfl, hnl, HR, HP, HE⟩ := hrel
    have n0 : (n : Int) ≤ L.length := by omega
    have KX : Hid (Calls Tryd.prog 40 #[.slice p L.length cap, .int .i64 x] wr fun e w' => e = .returned (.int .i64 (whF L x)) ∧ w' = wr) := by
      show Calls _ _ _ wr _
      rw [HE.out]; exact KA.out x
    cases hh : hereF L x with
    | false =>
      have hw : whF L x < 0 := by
        have e : hereF L x = decide (0 ≤ whF L x) := rfl
        rw [e, decide_eq_false_iff_not] at hh; omega
      have HQ : Hid (inF L id outer = false) := by show _ = _; rw [HR.out, inF_none outer hh]
      clear hh HP HR
      generalize whF L x = k at *
      go_wp2_with fail
      refine KX.out.mono ?_
      rintro e w2 ⟨rfl, e2⟩
      have HE2 : Hid (w2 = w) := e2.trans HE.out
      clear e2 KX HE
      go_wp2
      go_ret
      exact ⟨ret_bool HQ.out.symm, HE2.out⟩
    | true =>
      obtain ⟨k, hk, ew, -, ei⟩ := here_wh hh
      have hnk : n + k + 1 ≤ L.length := by have := HP.out hh; rw [ew] at this; omega
      obtain ⟨g, rfl, hc⟩ := HG.out (by omega)
      have c1 : wr.cell? ⟨g, k * 9 + 1, none⟩ = some (.int .i64 (atF L k).pa) := by rw [HE.out]; exact hc k hk
      have HI : Hid (inF L id outer = ((atF L k).pa == outer || inF L (atF L k).pa outer)) := by show _ = _; rw [HR.out, ← ei, inF_at HL.out hk]
      have HN : Hid (hereF L (atF L k).pa = true → n + 1 + (whF L (atF L k).pa).toNat + 1 ≤ L.length) := fun h => by
        by_cases hp : (atF L k).pa = 0
        · rw [hp, zero_away HL.out] at h; cases h
        · obtain ⟨j, hj, ej, -⟩ := parent_here HL.out hk hp
          rw [ej]; omega
      rw [ew] at KX
      have k0 : (0 : Int) ≤ k := by omega
      have k1 : (k : Int) < L.length := by omega
      have hn1 : n + 1 ≤ L.length := by omega
      clear hc hh HP HR ew ei
      generalize hy : (atF L k).pa = y at *
      clear hy
      by_cases hq : y = outer
      · have q1 : (y == outer) = true := by rw [beq_iff_eq]; exact hq
        have HQ : Hid (inF L id outer = true) := by show _ = _; rw [HI.out, q1]; rfl
        clear hq HI HN
        go_wp2_with fail
        refine KX.out.mono ?_
        rintro e w2 ⟨rfl, e2⟩
        have HE2 : Hid (w2 = w) := e2.trans HE.out
        have d1 : w2.cell? ⟨g, k * 9 + 1, none⟩ = some (.int .i64 y) := by rw [e2]; exact c1
        clear e2 KX HE c1
        go_wp2
        go_ret
        exact ⟨ret_bool HQ.out.symm, HE2.out⟩
      · have q1 : (y == outer) = false := by rw [beq_eq_false_iff_ne]; exact hq
        have HQ : Hid (inF L id outer = inF L y outer) := by show _ = _; rw [HI.out, q1]; rfl
        clear hq HI
        go_wp2_with fail
        refine KX.out.mono ?_
        rintro e w2 ⟨rfl, e2⟩
        have HE2 : Hid (w2 = w) := e2.trans HE.out
        have d1 : w2.cell? ⟨g, k * 9 + 1, none⟩ = some (.int .i64 y) := by rw [e2]; exact c1
        clear e2 KX HE c1
        go_wp2
        go_roundw
        case rel => exact ⟨y, n + 1, rfl, by go_num, hn1, HQ, HN, HE2⟩
        case measure => simp [intOf]; omega
end Go.Proofs.YtclpamjgglfljaaDoor

/- The walk of the specification's l09Inner. Written by specshut.py. -/
namespace Go.Proofs.YtclpamjgglfljaaDoor
open Go.RowKit

/-- those that are not within that one -/
def innerF (L : List Fr) (id : Int) : List Fr := L.filter (fun f => !(inF L f.id id))
theorem filt_step {p : Fr → Bool} {L : List Fr} {k : Nat} (hk : k < L.length) : (L.take (k + 1)).filter p = if p (atF L k) = true then (L.take k).filter p ++ [atF L k] else (L.take k).filter p := by
  rw [List.take_succ_eq_append_getElem hk, List.filter_append, ← atF_get hk]
  cases h : p (atF L k) with
  | true => rw [if_pos rfl, List.filter_cons_of_pos h, List.filter_nil]
  | false => rw [if_neg (by decide), List.filter_cons_of_neg (by rw [h]; decide), List.filter_nil, List.append_nil]
set_option maxRecDepth 10000 in
set_option maxHeartbeats 8000000 in
theorem specInner9_any (v : Value) (L : List Fr) (B : Nat) (id : Int) (w : World) (hs : SliceF w B v L) (hn : L.length ≤ 1000) (hL : framesB L = true) :
    Calls Tryd.prog 41 #[v, .int .i64 id] w fun e w' => ∃ v', e = .returned v' ∧ w'.ownsRow w.heap.size 54 9 v' (innerF L id).length (frCells (innerF L id)) ∧ Below w.heap.size w w' := by
  have KI : Hid (∀ x W, Below w.heap.size w W → Calls Tryd.prog 64 #[v, .int .i64 x, .int .i64 id] W fun e w' => e = .returned (.bool (inF L x id)) ∧ w' = W) := fun x W hb => specWithin9_any v L B x id W (hs.below hb) (by omega) hL
  obtain ⟨P, hP⟩ : ∃ P : Fr → Bool, P = fun f => !(inF L f.id id) := ⟨_, rfl⟩
  have HIn : Hid (innerF L id = L.filter P) := by show _ = _; rw [hP]; rfl
  have HPt : Hid (∀ y : Fr, inF L y.id id = true → P y = false) := fun y h => by rw [hP]; show (!(inF L y.id id)) = false; rw [h]; rfl
  have HPf : Hid (∀ y : Fr, inF L y.id id = false → P y = true) := fun y h => by rw [hP]; show (!(inF L y.id id)) = true; rw [h]; rfl
  have HST : Hid (∀ k, k < L.length → (L.take (k + 1)).filter P = if P (atF L k) = true then (L.take k).filter P ++ [atF L k] else (L.take k).filter P) := fun k hk => filt_step hk
  have HLE : Hid (∀ k, ((L.take k).filter P).length ≤ k) := fun k => Nat.le_trans (List.length_filter_le _ _) (by rw [List.length_take]; omega)
  have HSN : Hid (∀ (Y : List Fr) (c : Fr), frCells Y ++ frVals c = frCells (Y ++ [c])) := fun Y c => frCells_snoc Y c
  obtain ⟨i0, hi, hy0, hy1, hy2⟩ := info_parts infoFrame
  obtain ⟨⟨q, cap, rfl, hg⟩, -⟩ := hs
  have HG : Hid (0 < L.length → ∃ g, q = some ⟨g, 0, none⟩ ∧ g < w.heap.size ∧ ∀ j, j < L.length → ∀ o, o < 9 → w.cell? ⟨g, j * 9 + o, none⟩ = some (frC (atF L j) o)) := fun h0 => by
    obtain ⟨g, e, -, hgw, hc⟩ := hg h0
    exact ⟨g, e, hgw, fun j hj o ho => (hc j hj o ho).1⟩
  have O0 : Hid ((w.alloc (.cells #[] 54)).ownsRow w.heap.size 54 9 (.slice (some ⟨w.heap.size, 0, none⟩) 0 0) ((L.take 0).filter P).length (frCells ((L.take 0).filter P))) := by
    show World.ownsRow _ _ _ _ _ _ _
    rw [List.take_zero]
    exact World.ownsRow_made w #[] 0 (Nat.le_refl _) (Nat.zero_le _) rfl
  have B00 : Hid (Below w.heap.size w (w.alloc (.cells #[] 54))) := (Below.refl _ _).alloc (Nat.le_refl _) _
  clear hg hP hL
  go_enter Tryd.func41, Tryd.ntmps41
  go_wp2
  go_loopw [5, 6] (fun stv i wr => ∃ (k : Nat) (sl : Value), sl = stv ∧ k ≤ L.length ∧ i = .int .i64 k ∧ Hid (wr.ownsRow w.heap.size 54 9 sl ((L.take k).filter P).length (frCells ((L.take k).filter P))) ∧ Hid (Below w.heap.size w wr)) (fun _ i _ => L.length - (intOf i).toNat)
  case atStart => exact ⟨0, _, rfl, Nat.zero_le _, rfl, O0, B00⟩
  case round =>
    obtain ⟨k, sl, rfl, hk, rfl, HO, HB⟩ := hrel
    have hws : w.heap.size ≤ wr.heap.size := HB.out.size
    by_cases hlt : k < L.length
    · obtain ⟨g, rfl, hgw, hc⟩ := HG.out (by omega)
      have k0 : (0 : Int) ≤ k := by omega
      have k1 : (k : Int) < L.length := by omega
      have KI0 : Hid (Calls Tryd.prog 64 #[.slice (some ⟨g, 0, none⟩) L.length cap, .int .i64 (atF L k).id, .int .i64 id] wr fun e w' => e = .returned (.bool (inF L (atF L k).id id)) ∧ w' = wr) := KI.out _ wr HB.out
      have c0 : wr.cell? ⟨g, k * 9, none⟩ = some (.int .i64 (atF L k).id) := by rw [(bcell HB.out).1 _ _ hgw]; exact hc k hlt 0 (by omega)
      have c1 : wr.cell? ⟨g, k * 9 + 1, none⟩ = some (.int .i64 (atF L k).pa) := by rw [(bcell HB.out).1 _ _ hgw]; exact hc k hlt 1 (by omega)
      have c2 : wr.cell? ⟨g, k * 9 + 2, none⟩ = some (.string (atF L k).sc) := by rw [(bcell HB.out).1 _ _ hgw]; exact hc k hlt 2 (by omega)
      have c3 : wr.cell? ⟨g, k * 9 + 3, none⟩ = some (.string (atF L k).ho) := by rw [(bcell HB.out).1 _ _ hgw]; exact hc k hlt 3 (by omega)
      have c4 : wr.cell? ⟨g, k * 9 + 4, none⟩ = some (.int .i64 (atF L k).po) := by rw [(bcell HB.out).1 _ _ hgw]; exact hc k hlt 4 (by omega)
      have c5 : wr.cell? ⟨g, k * 9 + 5, none⟩ = some (.string (atF L k).pt) := by rw [(bcell HB.out).1 _ _ hgw]; exact hc k hlt 5 (by omega)
      have c6 : wr.cell? ⟨g, k * 9 + 6, none⟩ = some (.bool (atF L k).sb) := by rw [(bcell HB.out).1 _ _ hgw]; exact hc k hlt 6 (by omega)
      have c7 : wr.cell? ⟨g, k * 9 + 7, none⟩ = some (.bool (atF L k).fl) := by rw [(bcell HB.out).1 _ _ hgw]; exact hc k hlt 7 (by omega)
      have c8 : wr.cell? ⟨g, k * 9 + 8, none⟩ = some (.int .i64 (atF L k).tc) := by rw [(bcell HB.out).1 _ _ hgw]; exact hc k hlt 8 (by omega)
      have HYes : Hid (inF L (atF L k).id id = true → (L.take (k + 1)).filter P = (L.take k).filter P) := fun h => by rw [HST.out k hlt, if_neg (by rw [HPt.out _ h]; decide)]
      have HNo : Hid (inF L (atF L k).id id = false → (L.take (k + 1)).filter P = (L.take k).filter P ++ [atF L k]) := fun h => by rw [HST.out k hlt, if_pos (HPf.out _ h)]
      have hle := HLE.out k
      clear hc
      generalize hct : inF L (atF L k).id id = ct at *
      clear hct
      generalize atF L k = y at *
      generalize hY2 : (L.take (k + 1)).filter P = Y2 at *
      generalize (L.take k).filter P = Y at *
      generalize hm : Y.length = m at *
      have HM : Hid (Y.length = m) := hm
      clear hm
      obtain ⟨yid, ypa, ysc, yho, ypo, ypt, ysb, yfl, ytc⟩ := y
      dsimp only at *
      go_wp2_with fail
      refine KI0.out.mono ?_
      rintro e w2 ⟨rfl, e2⟩
      have e3 := e2.symm
      subst e3
      cases ct with
      | true =>
        have O5 : Hid (wr.ownsRow w.heap.size 54 9 sl Y2.length (frCells Y2)) := by
          show World.ownsRow _ _ _ _ _ _ _
          rw [HYes.out rfl, HM.out]
          exact HO.out
        clear HYes HNo KI0 c0 c1 c2 c3 c4 c5 c6 c7 c8 HO
        go_wp2
        go_roundw
        case rel => exact ⟨k + 1, _, rfl, by omega, by go_num, by rw [hY2]; exact O5, HB⟩
        case measure => simp [intOf]; omega
      | false =>
        have HY2 : Hid (Y2 = Y ++ [⟨yid, ypa, ysc, yho, ypo, ypt, ysb, yfl, ytc⟩]) := HNo.out rfl
        clear HYes HNo KI0
        go_wp2_with (at_builtin; go_must (refine wpList_append_own _ rfl _ _ 29 rfl w.heap.size 54 i0 (.agg #[.int .i64 0, .int .i64 0, .string ⟨#[]⟩, .string ⟨#[]⟩, .int .i64 0, .string ⟨#[]⟩, .bool false, .bool false, .int .i64 0]) 9 88 Tryd.underlying29 hi hy0 hy1 hy2 rfl (by decide) _ _ _ rfl (HO.out.alloc _) ⟨wr.heap.size, 0, none⟩ 1 1 (frVals ⟨yid, ypa, ysc, yho, ypo, ypt, ysb, yfl, ytc⟩) rfl rfl (cell_Fr _ ⟨yid, ypa, ysc, yho, ypo, ypt, ysb, yfl, ytc⟩ _) (one_Fr ⟨yid, ypa, ysc, yho, ypo, ypt, ysb, yfl, ytc⟩) (by unfold maxLen; omega) (by omega) (by simp; omega) ?_))
        intro v1 w4 ho1 hg1 hn1
        have hb4 : Below w.heap.size w w4 := (HB.out.alloc HB.out.size _).grown hg1 (Nat.le_trans HB.out.size (by simp)) (fun j hj => own_base HO.out j hj)
        have O5 : Hid (w4.ownsRow w.heap.size 54 9 v1 Y2.length (frCells Y2)) := by
          show World.ownsRow _ _ _ _ _ _ _
          rw [HY2.out, ← HSN.out, List.length_append, HM.out]
          exact ho1
        have B4 : Hid (Below w.heap.size w w4) := hb4
        clear ho1 hg1 hn1 hb4 c0 c1 c2 c3 c4 c5 c6 c7 c8 HO
        go_wp2
        go_roundw
        case rel => exact ⟨k + 1, _, rfl, by omega, by go_num, by rw [hY2]; exact O5, B4⟩
        case measure => simp [intOf]; omega
    · have hkL : k = L.length := by omega
      subst hkL
      have O5 : Hid (wr.ownsRow w.heap.size 54 9 sl (innerF L id).length (frCells (innerF L id))) := by
        show World.ownsRow _ _ _ _ _ _ _
        have h := HO.out
        rw [List.take_length] at h
        rw [HIn.out]
        exact h
      clear HO
      go_wp2
      go_ret
      exact ⟨_, rfl, O5.out, HB.out⟩
end Go.Proofs.YtclpamjgglfljaaDoor

/- The box of an answer of the functions of frames. -/
namespace Go.Proofs.YtclpamjgglfljaaDoor
open Go.RowKit

/-- an answer of frames -/
structure FO where
  ar : List Fr
  id : Int
  co : Int
/-- an answer's value -/
def AnsF (w : World) (B : Nat) (v : Value) (x : FO) : Prop := ∃ s, v = .agg #[s, .int .i64 x.id, .int .i64 x.co] ∧ SliceF w B s x.ar
theorem AnsF.below {w w' : World} {B : Nat} {v : Value} {x : FO} (h : AnsF w B v x) (hb : Below w.heap.size w w') : AnsF w' B v x := by
  obtain ⟨s, rfl, hs⟩ := h
  exact ⟨s, rfl, hs.below hb⟩
/-- an empty answer lies in the block -/
structure BoxF (W : World) (b : Nat) : Prop where
  c0 : W.cell? ⟨b, 0, none⟩ = some (.slice none 0 0)
  c1 : W.cell? ⟨b, 1, none⟩ = some (.int .i64 0)
  c2 : W.cell? ⟨b, 2, none⟩ = some (.int .i64 0)
  f0 : W.frozen? ⟨b, 0, none⟩ = false
  f1 : W.frozen? ⟨b, 1, none⟩ = false
  f2 : W.frozen? ⟨b, 2, none⟩ = false
  lt : b < W.heap.size
theorem BoxF.of_block {W W' : World} {b : Nat} (h : BoxF W b) (hb : W'.heap[b]? = W.heap[b]?) (hs : W.heap.size ≤ W'.heap.size) : BoxF W' b :=
  ⟨by rw [World.cell?_of_block (a := ⟨b, 0, none⟩) hb]; exact h.c0, by rw [World.cell?_of_block (a := ⟨b, 1, none⟩) hb]; exact h.c1, by rw [World.cell?_of_block (a := ⟨b, 2, none⟩) hb]; exact h.c2,
   by rw [World.frozen?_of_block (a := ⟨b, 0, none⟩) hb]; exact h.f0, by rw [World.frozen?_of_block (a := ⟨b, 1, none⟩) hb]; exact h.f1, by rw [World.frozen?_of_block (a := ⟨b, 2, none⟩) hb]; exact h.f2, Nat.lt_of_lt_of_le h.lt hs⟩
theorem BoxF.below {W W' : World} {b : Nat} (h : BoxF W b) (hb : Below W.heap.size W W') : BoxF W' b := h.of_block (hb.block b h.lt) hb.size
theorem BoxF.grown {W W' : World} {b G : Nat} (h : BoxF W b) (hg : W.grownBy W' (some G)) (hne : b ≠ G) : BoxF W' b := h.of_block (hg.block b h.lt (fun e => hne (Option.some.inj e))) hg.size
theorem boxF_made (w : World) (t : TypeId) : BoxF (w.alloc (.cells #[.slice none 0 0, .int .i64 0, .int .i64 0] t)) w.heap.size := ⟨by simp, by simp, by simp, by simp, by simp, by simp, by simp⟩
theorem store3F_below {w W : World} {b : Nat} {x y z : Value} (h : Below b w W) : Below b w (((W.setCell ⟨b, 0, none⟩ x).setCell ⟨b, 1, none⟩ y).setCell ⟨b, 2, none⟩ z) :=
  Below.setCell (Below.setCell (Below.setCell h (Nat.le_refl b) _) (Nat.le_refl b) _) (Nat.le_refl b) _
/-- a slice stays while an answer's box below it is written -/
theorem SliceF.store3 {W : World} {b B : Nat} {v x y z : Value} {L : List Fr} (h : SliceF W B v L) (hb : b < B) : SliceF (((W.setCell ⟨b, 0, none⟩ x).setCell ⟨b, 1, none⟩ y).setCell ⟨b, 2, none⟩ z) B v L := by
  have hz : (((W.setCell ⟨b, 0, none⟩ x).setCell ⟨b, 1, none⟩ y).setCell ⟨b, 2, none⟩ z).heap.size = W.heap.size := by simp
  have hk : ∀ k, k ≠ b → (((W.setCell ⟨b, 0, none⟩ x).setCell ⟨b, 1, none⟩ y).setCell ⟨b, 2, none⟩ z).heap[k]? = W.heap[k]? := fun k hk => by
    simp only [World.setCell, Array.getElem?_modify]
    rw [if_neg (Ne.symm hk), if_neg (Ne.symm hk), if_neg (Ne.symm hk)]
  obtain ⟨⟨p, cap, rfl, hg⟩, h2⟩ := h
  refine ⟨⟨p, cap, rfl, fun hn => ?_⟩, h2⟩
  obtain ⟨g, rfl, hB, hgw, hc⟩ := hg hn
  refine ⟨g, rfl, hB, by rw [hz]; exact hgw, fun j hj o ho => ⟨?_, ?_⟩⟩
  · rw [World.cell?_of_block (a := ⟨g, j * 9 + o, none⟩) (hk g (by omega))]; exact (hc j hj o ho).1
  · rw [World.frozen?_of_block (a := ⟨g, j * 9 + o, none⟩) (hk g (by omega))]; exact (hc j hj o ho).2
end Go.Proofs.YtclpamjgglfljaaDoor

/- FrameOpen as a plain function. Written by implopen.py. -/
namespace Go.Proofs.YtclpamjgglfljaaDoor
open Go.RowKit

def oneF (L : List Fr) (pa : Int) (sc ho pt : ByteArray) (po : Int) (sb : Bool) : Fr := ⟨lastF L + 1, pa, sc, ho, po, pt, sb, false, 0⟩
def openF (L : List Fr) (pa : Int) (sc ho pt : ByteArray) (po : Int) (sb : Bool) : FO :=
  if 400 < L.length then ⟨[], 0, 2⟩
  else if (framesB L && urlB sc ho pt po && boxF pa sb) = false then ⟨[], 0, 1⟩
  else if holdF L pa = false then ⟨[], 0, 6⟩
  else if L.length = 10 ∨ lastF L = 1000000 then ⟨[], 0, 9⟩
  else ⟨L ++ [oneF L pa sc ho pt po sb], lastF L + 1, 0⟩
theorem openF_size {L : List Fr} {pa : Int} {sc ho pt : ByteArray} {po : Int} {sb : Bool} (h : 400 < L.length) : openF L pa sc ho pt po sb = ⟨[], 0, 2⟩ := by unfold openF; rw [if_pos h]
theorem openF_form {L : List Fr} {pa : Int} {sc ho pt : ByteArray} {po : Int} {sb : Bool} (h : ¬ 400 < L.length) (h1 : (framesB L && urlB sc ho pt po && boxF pa sb) = false) : openF L pa sc ho pt po sb = ⟨[], 0, 1⟩ := by unfold openF; rw [if_neg h, if_pos h1]
theorem openF_none {L : List Fr} {pa : Int} {sc ho pt : ByteArray} {po : Int} {sb : Bool} (h : ¬ 400 < L.length) (h1 : (framesB L && urlB sc ho pt po && boxF pa sb) = true) (h2 : holdF L pa = false) : openF L pa sc ho pt po sb = ⟨[], 0, 6⟩ := by unfold openF; rw [if_neg h, if_neg (by rw [h1]; decide), if_pos h2]
theorem openF_full {L : List Fr} {pa : Int} {sc ho pt : ByteArray} {po : Int} {sb : Bool} (h : ¬ 400 < L.length) (h1 : (framesB L && urlB sc ho pt po && boxF pa sb) = true) (h2 : holdF L pa = true) (h3 : L.length = 10 ∨ lastF L = 1000000) : openF L pa sc ho pt po sb = ⟨[], 0, 9⟩ := by unfold openF; rw [if_neg h, if_neg (by rw [h1]; decide), if_neg (by rw [h2]; decide), if_pos h3]
theorem openF_ok {L : List Fr} {pa : Int} {sc ho pt : ByteArray} {po : Int} {sb : Bool} (h : ¬ 400 < L.length) (h1 : (framesB L && urlB sc ho pt po && boxF pa sb) = true) (h2 : holdF L pa = true) (h3 : L.length ≠ 10) (h4 : lastF L ≠ 1000000) : openF L pa sc ho pt po sb = ⟨L ++ [oneF L pa sc ho pt po sb], lastF L + 1, 0⟩ := by unfold openF; rw [if_neg h, if_neg (by rw [h1]; decide), if_neg (by rw [h2]; decide), if_neg (by omega)]
theorem openF_len (L : List Fr) (pa : Int) (sc ho pt : ByteArray) (po : Int) (sb : Bool) : (openF L pa sc ho pt po sb).ar.length ≤ 11 := by
  unfold openF
  split
  · simp
  · split
    · simp
    · rename_i h
      split
      · simp
      · split
        · simp
        · have h1 : (framesB L && urlB sc ho pt po && boxF pa sb) = true := by
            cases e : (framesB L && urlB sc ho pt po && boxF pa sb) with
            | true => rfl
            | false => exact absurd e h
          rw [Bool.and_eq_true, Bool.and_eq_true] at h1
          have := (framesB_parts h1.1.1).1
          simp; omega
end Go.Proofs.YtclpamjgglfljaaDoor

/- append to a slice whose capacity is cut to its length: a new row. -/
namespace Go.Proofs.YtclpamjgglfljaaDoor
open Go.RowKit

theorem run_append_cut {P : Program} (w : World) (base : Nat) (t ty e : TypeId) (i : TypeInfo) (z : Value) (size bytes : Nat) (ht : P.underlying t = some (.slice e)) (hi : P.info? e = some i) (hz : i.zero = some z)
    (hsize : i.size = size) (hby : i.bytes = bytes) (hzs : z.cells.size = size) (b : Addr) (n : Nat) (olds : List Value) (hlo : olds.length = n * size) (holds : ∀ j u, olds[j]? = some u → w.cell? (b.add j) = some u)
    (a : Addr) (m c : Nat) (news : List Value) (hl : news.length = m * size) (hnews : ∀ j u, news[j]? = some u → w.cell? (a.add j) = some u) (hm : 0 < m)
    (h63 : n + m ≤ maxLen) (hbytes : (n + m) * bytes ≤ 140737488355328) (hbase : base ≤ w.heap.size) :
    ∃ cap w', (Builtin.append_ #[t, t] ty #[.slice (some b) n n, .slice (some a) m c]).run P w = .ok (.slice (some ⟨w.heap.size, 0, none⟩) (n + m) cap) w' ∧ w'.ownsRow base e size (.slice (some ⟨w.heap.size, 0, none⟩) (n + m) cap) (n + m) (olds ++ news) ∧ w.grownBy w' none := by
  subst hsize
  subst hby
  have hlen : (olds ++ news).length = (n + m) * i.size := by rw [List.length_append, hlo, hl, Nat.add_mul]
  have hsmall : n + m ≤ 9223372036854775807 := by simp only [maxLen] at h63; omega
  have hr := run_append_grow (P := P) w t ty e i z ht hi hz b n n olds hlo holds a m c news hl hnews (by omega) (by omega) (growslice_fits (by omega) hbytes)
  have hge := grownCap_ge w (n + m) n e
  have hcm : grownCap w (n + m) n e ≤ maxLen := grownCap_le_maxLen w (n + m) n e h63
  refine ⟨_, _, hr, ⟨hlen, .inr ⟨w.heap.size, _, _, rfl, hbase, heap_alloc_new w.drew _, hge, hcm, ?_, ?_⟩⟩, ⟨rfl, rfl, rfl, by simp, fun k hk _ => by first | exact heap_alloc_old w.drew _ k hk | exact heap_alloc_old w.drew _ hk⟩⟩
  · simp only [Array.size_append, List.size_toArray, size_zeroCells, hzs, hlo, hl, ← Nat.add_mul]
    congr 1
    omega
  · simp only [Array.toList_append, List.append_assoc]
    rw [← List.append_assoc, ← hlen]
    exact List.take_left
theorem wp_append_cut {P : Program} {w : World} {o : Oper} {a : Act} {K : Act → World → Prop} {Q : Exit → Act → World → Prop} (s x : Operand) (t : TypeId) (ho : o.op = .call { callee := .builtin .append, args := #[s, x], argTypes := #[t, t] })
    (base : Nat) (e : TypeId) (i : TypeInfo) (z : Value) (size bytes : Nat) (ht : P.underlying t = some (.slice e)) (hi : P.info? e = some i) (hz : i.zero = some z) (hsize : i.size = size) (hby : i.bytes = bytes) (hzs : z.cells.size = size)
    (b : Addr) (n : Nat) (hs : a.eval s = .slice (some b) n n) (olds : List Value) (hlo : olds.length = n * size) (holds : ∀ j u, olds[j]? = some u → w.cell? (b.add j) = some u)
    (ad : Addr) (m c : Nat) (news : List Value) (hx : a.eval x = .slice (some ad) m c) (hl : news.length = m * size) (hnews : ∀ j u, news[j]? = some u → w.cell? (ad.add j) = some u) (hm : 0 < m)
    (h63 : n + m ≤ maxLen) (hbytes : (n + m) * bytes ≤ 140737488355328) (hbase : base ≤ w.heap.size)
    (h : ∀ cap w', w'.ownsRow base e size (.slice (some ⟨w.heap.size, 0, none⟩) (n + m) cap) (n + m) (olds ++ news) → w.grownBy w' none → K (a.put o.dst (.slice (some ⟨w.heap.size, 0, none⟩) (n + m) cap)) w') : o.wp P a w K Q := by
  obtain ⟨cap, w', hr, h2, h3⟩ := run_append_cut (P := P) w base t o.type e i z size bytes ht hi hz hsize hby hzs b n olds hlo holds ad m c news hl hnews hm h63 hbytes hbase
  unfold Oper.wp execOp
  simp only [ho, resolve, invoke, builtin, Sem.run_bind, Sem.run_pure, Result.andThen_ok, List.map_toArray, List.map_cons, List.map_nil, hs, hx, hr]
  exact h cap w' h2 h3
/- append of nil to what is the call's own: nothing changes. -/
theorem wp_append_nil {P : Program} {w : World} {o : Oper} {a : Act} {K : Act → World → Prop} {Q : Exit → Act → World → Prop} (s x : Operand) (t : TypeId) (ho : o.op = .call { callee := .builtin .append, args := #[s, x], argTypes := #[t, t] })
    (base : Nat) (e : TypeId) (i : TypeInfo) (size : Nat) (ht : P.underlying t = some (.slice e)) (hi : P.info? e = some i)
    (v : Value) (n : Nat) (xs : List Value) (hs : a.eval s = v) (hown : w.ownsRow base e size v n xs) (hx : a.eval x = .slice none 0 0)
    (h : K (a.put o.dst v) w) : o.wp P a w K Q := by
  have hr := run_append_owned_none (P := P) (w := w) base t o.type e i size ht hi v n xs hown
  unfold Oper.wp execOp
  simp only [ho, resolve, invoke, builtin, Sem.run_bind, Sem.run_pure, Result.andThen_ok, List.map_toArray, List.map_cons, List.map_nil, hs, hx, hr]
  exact h
end Go.Proofs.YtclpamjgglfljaaDoor

/- The walks of the specification's l09Ill, l09Open and FrameOpen. Written by specopen.py. -/
namespace Go.Proofs.YtclpamjgglfljaaDoor
open Go.RowKit

theorem one_cellsF : ∀ M : List Fr, ∀ v ∈ frCells M, v.oneCell' = true
  | [], v, h => by cases h
  | c :: M, v, h => by
    rw [frCells, List.mem_append] at h
    rcases h with h | h
    · exact one_Fr c v h
    · exact one_cellsF M v h
theorem cells_allF {w : World} {g : Nat} {L : List Fr} (hc : ∀ j, j < L.length → ∀ o, o < 9 → w.cell? ⟨g, j * 9 + o, none⟩ = some (frC (atF L j) o)) :
    ∀ j u, (frCells L)[j]? = some u → w.cell? ((⟨g, 0, none⟩ : Addr).add j) = some u := by
  intro j u h
  have hlt : j < L.length * 9 := by
    have := (List.getElem?_eq_some_iff.1 h).1
    rw [frCells_len] at this; exact this
  have e : (⟨g, 0, none⟩ : Addr).add j = ⟨g, j / 9 * 9 + j % 9, none⟩ := by
    have e1 : (⟨g, 0, none⟩ : Addr).add j = ⟨g, j, none⟩ := by unfold Addr.add; split <;> simp_all
    rw [e1, show j = j / 9 * 9 + j % 9 by omega]
    congr 1; omega
  have h3 := frCells_at L (j / 9) (by omega) (j % 9) (Nat.mod_lt _ (by decide))
  rw [show j / 9 * 9 + j % 9 = j by omega, h] at h3
  rw [e, hc _ (by omega) _ (Nat.mod_lt _ (by decide))]
  exact h3.symm
theorem wpList_append_nilF {P : Program} {w : World} {ops : Array Oper} {rest : List Oper} {o : Oper} {a : Act} {Q : Exit → Act → World → Prop} (hgd : o.guard = none) (s x : Operand) (t : TypeId) (ho : o.op = .call { callee := .builtin .append, args := #[s, x], argTypes := #[t, t] })
    (base : Nat) (e : TypeId) (i : TypeInfo) (size : Nat) (ht : P.underlying t = some (.slice e)) (hi : P.info? e = some i)
    (v : Value) (n : Nat) (xs : List Value) (hs : a.eval s = v) (hown : w.ownsRow base e size v n xs) (hx : a.eval x = .slice none 0 0)
    (h : ∀ w', Hid (w' = w) → wpList P ops Q rest (a.put o.dst v) w') : wpList P ops Q (o :: rest) a w :=
  wpList_plain hgd fun _ hK => wp_append_nil s x t ho base e i size ht hi v n xs hs hown hx (hK _ _ (h w rfl))
theorem specIll9_any (c : Int) (w : World) :
    Calls Tryd.prog 23 #[.int .i64 c] w fun e w' => e = .returned (.agg #[.slice none 0 0, .int .i64 0, .int .i64 c]) ∧ Below w.heap.size w w' := by
  go_enter Tryd.func23, Tryd.ntmps23
  go_wp2
  exact bodyPost_ret (v := .agg #[.slice none 0 0, .int .i64 0, .int .i64 c]) (by simp [results, Tryd.results23, go_sem]) rfl ⟨rfl, (Below.refl _ _).alloc (Nat.le_refl _) _⟩
end Go.Proofs.YtclpamjgglfljaaDoor

/- The walk of the specification's FrameShut. Written by specshut.py. -/
namespace Go.Proofs.YtclpamjgglfljaaDoor
open Go.RowKit

/-- FrameShut as a plain function -/
def shutF (L : List Fr) (id : Int) : FO :=
  if 400 < L.length then ⟨[], 0, 2⟩
  else if framesB L = false then ⟨[], 0, 1⟩
  else if hereF L id = false then ⟨[], 0, 6⟩
  else ⟨(innerF L id).filter (fun f => !(f.id == id)), id, 0⟩
theorem shutF_size {L : List Fr} {id : Int} (h : 400 < L.length) : shutF L id = ⟨[], 0, 2⟩ := by unfold shutF; rw [if_pos h]
theorem shutF_form {L : List Fr} {id : Int} (h : ¬ 400 < L.length) (h1 : framesB L = false) : shutF L id = ⟨[], 0, 1⟩ := by unfold shutF; rw [if_neg h, if_pos h1]
theorem shutF_none {L : List Fr} {id : Int} (h : ¬ 400 < L.length) (h1 : framesB L = true) (h2 : hereF L id = false) : shutF L id = ⟨[], 0, 6⟩ := by unfold shutF; rw [if_neg h, if_neg (by rw [h1]; decide), if_pos h2]
theorem shutF_ok {L : List Fr} {id : Int} (h : ¬ 400 < L.length) (h1 : framesB L = true) (h2 : hereF L id = true) : shutF L id = ⟨(innerF L id).filter (fun f => !(f.id == id)), id, 0⟩ := by unfold shutF; rw [if_neg h, if_neg (by rw [h1]; decide), if_neg (by rw [h2]; decide)]
theorem own_row_below {w w' : World} {B n sz : Nat} {e : TypeId} {v : Value} {xs : List Value} (h : w.ownsRow B e sz v n xs) (hb : Below w.heap.size w w') : w'.ownsRow B e sz v n xs := ownR_below h hb
set_option maxRecDepth 10000 in
set_option maxHeartbeats 16000000 in
theorem specFrameShut_any (v : Value) (L : List Fr) (B : Nat) (id : Int) (w : World) (hs : SliceF w B v L) (hn : L.length ≤ 1048576) :
    Calls Tryd.prog 20 #[v, .int .i64 id] w fun e w' => ∃ v', e = .returned v' ∧ AnsF w' w.heap.size v' (shutF L id) ∧ Below w.heap.size w w' := by
  have KI : Hid (∀ c W, Calls Tryd.prog 23 #[.int .i64 c] W fun e w' => e = .returned (.agg #[.slice none 0 0, .int .i64 0, .int .i64 c]) ∧ Below W.heap.size W w') := fun c W => specIll9_any c W
  have KR : Hid (∀ W, Below w.heap.size w W → Calls Tryd.prog 24 #[v] W fun e w' => e = .returned (.bool (framesB L)) ∧ Below W.heap.size W w') := fun W hb => specFrames_any v L B W (hs.below hb) hn
  have KA : Hid (∀ W, Below w.heap.size w W → Calls Tryd.prog 40 #[v, .int .i64 id] W fun e w' => e = .returned (.int .i64 (whF L id)) ∧ w' = W) := fun W hb => specAt_any v L B id W (hs.below hb) hn
  have KN : Hid (framesB L = true → ∀ W, Below w.heap.size w W → Calls Tryd.prog 41 #[v, .int .i64 id] W fun e w' => ∃ v', e = .returned v' ∧ w'.ownsRow W.heap.size 54 9 v' (innerF L id).length (frCells (innerF L id)) ∧ Below W.heap.size W w') := fun hL W hb => specInner9_any v L B id W (hs.below hb) (by have := (framesB_parts hL).1; omega) hL
  have HIL : Hid (framesB L = true → (innerF L id).length ≤ 10) := fun hL => Nat.le_trans (List.length_filter_le _ _) (framesB_parts hL).1
  obtain ⟨W0, hW⟩ : ∃ W0, W0 = w.alloc (.cells #[.slice none 0 0, .int .i64 0, .int .i64 0] 31) := ⟨_, rfl⟩
  have hW0 : Hid (W0 = w.alloc (.cells #[.slice none 0 0, .int .i64 0, .int .i64 0] 31)) := hW
  have X0 : Hid (BoxV W0 w.heap.size [.slice none 0 0, .int .i64 0, .int .i64 0]) := by show BoxV _ _ _; rw [hW]; exact boxV_new w [.slice none 0 0, .int .i64 0, .int .i64 0] 31
  have B0 : Hid (Below w.heap.size w W0) := by show Below _ _ _; rw [hW]; exact (Below.refl _ _).alloc (Nat.le_refl _) _
  obtain ⟨p, cap, rfl⟩ : ∃ p cap, v = .slice p L.length cap := by obtain ⟨-, p, c, e, -⟩ := hs; exact ⟨p, c, e⟩
  obtain ⟨i0, hi, hy0, hy1, hy2⟩ := info_parts infoFrame
  clear hW hs
  by_cases h4 : 400 < L.length
  · have q4 : decide ((400 : Int) < (L.length : Int)) = true := by rw [decide_eq_true_iff]; omega
    go_enter Tryd.func20, Tryd.ntmps20
    go_upto_region 1 with fail
    rw [← hW0.out]
    clear hW0
    have HQ : Hid (shutF L id = ⟨[], 0, 2⟩) := by show _ = _; exact shutF_size h4
    go_wp2_with fail
    refine (KI.out 2 _).mono ?_
    rintro e w9 ⟨rfl, hb9⟩
    have X9 : Hid (BoxV w9 w.heap.size [.slice none 0 0, .int .i64 0, .int .i64 0]) := X0.out.below hb9
    have B9 : Hid (Below w.heap.size w w9) := B0.out.trans (hb9.mono B0.out.size)
    clear hb9
    have x0 : w9.cell? ⟨w.heap.size, 0, none⟩ = some (.slice none 0 0) := X9.out.at (i := 0) rfl
    have xf0 : w9.frozen? ⟨w.heap.size, 0, none⟩ = false := X9.out.free (i := 0) rfl
    have x1 : w9.cell? ⟨w.heap.size, 1, none⟩ = some (.int .i64 0) := X9.out.at (i := 1) rfl
    have xf1 : w9.frozen? ⟨w.heap.size, 1, none⟩ = false := X9.out.free (i := 1) rfl
    have x2 : w9.cell? ⟨w.heap.size, 2, none⟩ = some (.int .i64 0) := X9.out.at (i := 2) rfl
    have xf2 : w9.frozen? ⟨w.heap.size, 2, none⟩ = false := X9.out.free (i := 2) rfl
    go_wp2
    exact bodyPost_ret (v := .agg #[.slice none 0 0, .int .i64 0, .int .i64 2]) (by simp [results, Tryd.results20, go_sem, x0, x1, x2]) rfl ⟨_, rfl, ⟨.slice none 0 0, by rw [HQ.out], by rw [HQ.out]; exact sliceF_none _ _⟩, (Below.setCell (Below.setCell (Below.setCell B9.out (Nat.le_refl _) _) (Nat.le_refl _) _) (Nat.le_refl _) _)⟩
  have q4 : decide ((400 : Int) < (L.length : Int)) = false := by rw [decide_eq_false_iff_not]; omega
  go_enter Tryd.func20, Tryd.ntmps20
  go_upto_region 1 with fail
  rw [← hW0.out]
  clear hW0
  go_wp2_with fail
  refine (KR.out _ B0.out).mono ?_
  rintro e w1 ⟨rfl, hb1⟩
  have X1 : Hid (BoxV w1 w.heap.size [.slice none 0 0, .int .i64 0, .int .i64 0]) := X0.out.below hb1
  have B1 : Hid (Below w.heap.size w w1) := B0.out.trans (hb1.mono B0.out.size)
  clear hb1 X0 B0 KR
  cases hfb : framesB L with
  | false =>
    have HQ : Hid (shutF L id = ⟨[], 0, 1⟩) := by show _ = _; exact shutF_form h4 hfb
    go_wp2_with fail
    refine (KI.out 1 _).mono ?_
    rintro e w9 ⟨rfl, hb9⟩
    have X9 : Hid (BoxV w9 w.heap.size [.slice none 0 0, .int .i64 0, .int .i64 0]) := X1.out.below hb9
    have B9 : Hid (Below w.heap.size w w9) := B1.out.trans (hb9.mono B1.out.size)
    clear hb9
    have x0 : w9.cell? ⟨w.heap.size, 0, none⟩ = some (.slice none 0 0) := X9.out.at (i := 0) rfl
    have xf0 : w9.frozen? ⟨w.heap.size, 0, none⟩ = false := X9.out.free (i := 0) rfl
    have x1 : w9.cell? ⟨w.heap.size, 1, none⟩ = some (.int .i64 0) := X9.out.at (i := 1) rfl
    have xf1 : w9.frozen? ⟨w.heap.size, 1, none⟩ = false := X9.out.free (i := 1) rfl
    have x2 : w9.cell? ⟨w.heap.size, 2, none⟩ = some (.int .i64 0) := X9.out.at (i := 2) rfl
    have xf2 : w9.frozen? ⟨w.heap.size, 2, none⟩ = false := X9.out.free (i := 2) rfl
    go_wp2
    exact bodyPost_ret (v := .agg #[.slice none 0 0, .int .i64 0, .int .i64 1]) (by simp [results, Tryd.results20, go_sem, x0, x1, x2]) rfl ⟨_, rfl, ⟨.slice none 0 0, by rw [HQ.out], by rw [HQ.out]; exact sliceF_none _ _⟩, (Below.setCell (Below.setCell (Below.setCell B9.out (Nat.le_refl _) _) (Nat.le_refl _) _) (Nat.le_refl _) _)⟩
  | true =>
  go_wp2_with fail
  refine (KA.out _ B1.out).mono ?_
  rintro e w2 ⟨rfl, e2⟩
  have e3 := e2.symm
  subst e3
  clear KA
  have hwd : hereF L id = decide (0 ≤ whF L id) := rfl
  cases hh : hereF L id with
  | false =>
    have hw : whF L id < 0 := by rw [hwd, decide_eq_false_iff_not] at hh; omega
    have HQ0 : shutF L id = ⟨[], 0, 6⟩ := shutF_none h4 hfb hh
    clear hh hwd
    generalize whF L id = k at *
    have HQ : Hid (shutF L id = ⟨[], 0, 6⟩) := by show _ = _; exact HQ0
    go_wp2_with fail
    refine (KI.out 6 _).mono ?_
    rintro e w9 ⟨rfl, hb9⟩
    have X9 : Hid (BoxV w9 w.heap.size [.slice none 0 0, .int .i64 0, .int .i64 0]) := X1.out.below hb9
    have B9 : Hid (Below w.heap.size w w9) := B1.out.trans (hb9.mono B1.out.size)
    clear hb9
    have x0 : w9.cell? ⟨w.heap.size, 0, none⟩ = some (.slice none 0 0) := X9.out.at (i := 0) rfl
    have xf0 : w9.frozen? ⟨w.heap.size, 0, none⟩ = false := X9.out.free (i := 0) rfl
    have x1 : w9.cell? ⟨w.heap.size, 1, none⟩ = some (.int .i64 0) := X9.out.at (i := 1) rfl
    have xf1 : w9.frozen? ⟨w.heap.size, 1, none⟩ = false := X9.out.free (i := 1) rfl
    have x2 : w9.cell? ⟨w.heap.size, 2, none⟩ = some (.int .i64 0) := X9.out.at (i := 2) rfl
    have xf2 : w9.frozen? ⟨w.heap.size, 2, none⟩ = false := X9.out.free (i := 2) rfl
    go_wp2
    exact bodyPost_ret (v := .agg #[.slice none 0 0, .int .i64 0, .int .i64 6]) (by simp [results, Tryd.results20, go_sem, x0, x1, x2]) rfl ⟨_, rfl, ⟨.slice none 0 0, by rw [HQ.out], by rw [HQ.out]; exact sliceF_none _ _⟩, (Below.setCell (Below.setCell (Below.setCell B9.out (Nat.le_refl _) _) (Nat.le_refl _) _) (Nat.le_refl _) _)⟩
  | true =>
  have hw : ¬ (whF L id < 0) := by rw [hwd, decide_eq_true_iff] at hh; omega
  have qw : decide (whF L id < 0) = false := by rw [decide_eq_false_iff_not]; exact hw
  have HQ : Hid (shutF L id = ⟨(innerF L id).filter (fun f => !(f.id == id)), id, 0⟩) := shutF_ok h4 hfb hh
  have KN1 : Hid (∀ W, Below w.heap.size w W → Calls Tryd.prog 41 #[.slice p L.length cap, .int .i64 id] W fun e w' => ∃ v', e = .returned v' ∧ w'.ownsRow W.heap.size 54 9 v' (innerF L id).length (frCells (innerF L id)) ∧ Below W.heap.size W w') := KN.out hfb
  have hil := HIL.out hfb
  have O0 : Hid ((w1.alloc (.cells #[] 54)).ownsRow w1.heap.size 54 9 (.slice (some ⟨w1.heap.size, 0, none⟩) 0 0) 0 (frCells [])) := World.ownsRow_made w1 #[] 0 (Nat.le_refl _) (Nat.zero_le _) rfl
  have AA : Hid (Below w1.heap.size w1 (w1.alloc (.cells #[] 54))) := (Below.refl _ _).alloc (Nat.le_refl _) _
  clear hh hwd hw KN HIL KI
  generalize whF L id = wh at *
  generalize innerF L id = M at *
  go_wp2_with fail
  refine (KN1.out _ (B1.out.trans (AA.out.mono B1.out.size))).mono ?_
  rintro e w3 ⟨mv, rfl, om, hb3⟩
  have S3 := sliceF_of_own om
  have O3 : Hid (w3.ownsRow w1.heap.size 54 9 (.slice (some ⟨w1.heap.size, 0, none⟩) 0 0) 0 (frCells [])) := own_row_below O0.out hb3
  have A3 : Hid (Below w1.heap.size w1 w3) := AA.out.trans (hb3.mono AA.out.size)
  obtain ⟨⟨q, mc, rfl, hg⟩, -⟩ := S3
  have HG : Hid (0 < M.length → ∃ g, q = some ⟨g, 0, none⟩ ∧ w1.heap.size < g ∧ g < w3.heap.size ∧ ∀ j, j < M.length → ∀ o, o < 9 → w3.cell? ⟨g, j * 9 + o, none⟩ = some (frC (atF M j) o)) := fun h0 => by
    obtain ⟨g, e, hgb, hgw, hc⟩ := hg h0
    exact ⟨g, e, by rw [World.size_alloc] at hgb; omega, hgw, fun j hj o ho => (hc j hj o ho).1⟩
  have HSN : Hid (∀ (Y : List Fr) (c : Fr), frCells Y ++ frVals c = frCells (Y ++ [c])) := fun Y c => frCells_snoc Y c
  obtain ⟨P, hP⟩ : ∃ P : Fr → Bool, P = fun f => !(f.id == id) := ⟨_, rfl⟩
  have HPP : Hid (∀ y : Fr, P y = !(y.id == id)) := fun y => by rw [hP]
  rw [← hP] at HQ
  have HST : Hid (∀ k, k < M.length → (M.take (k + 1)).filter P = if P (atF M k) = true then (M.take k).filter P ++ [atF M k] else (M.take k).filter P) := fun k hk => filt_step hk
  have HLE : Hid (∀ k, ((M.take k).filter P).length ≤ k) := fun k => Nat.le_trans (List.length_filter_le _ _) (by rw [List.length_take]; omega)
  have HC3 : Hid (∀ g, q = some ⟨g, 0, none⟩ → 0 < M.length → ((.slice (some ⟨w1.heap.size, 0, none⟩) 0 0 : Value).ownBlock ≠ some g ∧ g < w3.heap.size ∧ ∀ j, j < M.length → ∀ o, o < 9 → w3.cell? ⟨g, j * 9 + o, none⟩ = some (frC (atF M j) o))) := fun g e h0 => by
    obtain ⟨g', e', h1, h2, h3⟩ := HG.out h0
    have : g' = g := by rw [e'] at e; injection e with e; injection e
    subst this
    exact ⟨fun e => by have h5 : w1.heap.size = g' := Option.some.inj e; omega, h2, h3⟩
  have O33 : Hid (w3.ownsRow w1.heap.size 54 9 (.slice (some ⟨w1.heap.size, 0, none⟩) 0 0) ((M.take 0).filter P).length (frCells ((M.take 0).filter P))) := by show World.ownsRow _ _ _ _ _ _ _; rw [List.take_zero]; exact O3.out
  clear hg om hb3 AA O0 O3 hP KN1 hfb
  go_wp2
  go_loopw [5, 7] (fun stv i wr => ∃ (k : Nat) (sl : Value), sl = stv ∧ k ≤ M.length ∧ i = .int .i64 k ∧ Hid (wr.ownsRow w1.heap.size 54 9 sl ((M.take k).filter P).length (frCells ((M.take k).filter P))) ∧ Hid (Below w1.heap.size w1 wr) ∧ Hid (∀ g, q = some ⟨g, 0, none⟩ → 0 < M.length → (sl.ownBlock ≠ some g ∧ g < wr.heap.size ∧ ∀ j, j < M.length → ∀ o, o < 9 → wr.cell? ⟨g, j * 9 + o, none⟩ = some (frC (atF M j) o)))) (fun _ i _ => M.length - (intOf i).toNat)
  case atStart => exact ⟨0, _, rfl, Nat.zero_le _, rfl, O33, A3, HC3⟩
  case round =>
    obtain ⟨k, sl, rfl, hk, rfl, HO, HB, HC⟩ := hrel
    have hws : w1.heap.size ≤ wr.heap.size := HB.out.size
    by_cases hlt : k < M.length
    · obtain ⟨g, rfl, -, -, -⟩ := HG.out (by omega)
      obtain ⟨hne, hgw, hc⟩ := HC.out g rfl (by omega)
      have k0 : (0 : Int) ≤ k := by omega
      have k1 : (k : Int) < M.length := by omega
      have c0 : wr.cell? ⟨g, k * 9, none⟩ = some (.int .i64 (atF M k).id) := hc k hlt 0 (by omega)
      have c1 : wr.cell? ⟨g, k * 9 + 1, none⟩ = some (.int .i64 (atF M k).pa) := hc k hlt 1 (by omega)
      have c2 : wr.cell? ⟨g, k * 9 + 2, none⟩ = some (.string (atF M k).sc) := hc k hlt 2 (by omega)
      have c3 : wr.cell? ⟨g, k * 9 + 3, none⟩ = some (.string (atF M k).ho) := hc k hlt 3 (by omega)
      have c4 : wr.cell? ⟨g, k * 9 + 4, none⟩ = some (.int .i64 (atF M k).po) := hc k hlt 4 (by omega)
      have c5 : wr.cell? ⟨g, k * 9 + 5, none⟩ = some (.string (atF M k).pt) := hc k hlt 5 (by omega)
      have c6 : wr.cell? ⟨g, k * 9 + 6, none⟩ = some (.bool (atF M k).sb) := hc k hlt 6 (by omega)
      have c7 : wr.cell? ⟨g, k * 9 + 7, none⟩ = some (.bool (atF M k).fl) := hc k hlt 7 (by omega)
      have c8 : wr.cell? ⟨g, k * 9 + 8, none⟩ = some (.int .i64 (atF M k).tc) := hc k hlt 8 (by omega)
      have HYes : Hid (((atF M k).id == id) = true → (M.take (k + 1)).filter P = (M.take k).filter P) := fun h => by rw [HST.out k hlt, if_neg (by rw [HPP.out, h]; decide)]
      have HNo : Hid (((atF M k).id == id) = false → (M.take (k + 1)).filter P = (M.take k).filter P ++ [atF M k]) := fun h => by rw [HST.out k hlt, if_pos (by rw [HPP.out, h]; rfl)]
      have hle := HLE.out k
      have HCC : Hid (∀ j, j < M.length → ∀ o, o < 9 → wr.cell? ⟨g, j * 9 + o, none⟩ = some (frC (atF M j) o)) := hc
      clear hc
      generalize atF M k = y at *
      generalize hY2 : (M.take (k + 1)).filter P = Y2 at *
      generalize (M.take k).filter P = Y at *
      generalize hm : Y.length = m at *
      have HM : Hid (Y.length = m) := hm
      clear hm
      obtain ⟨yid, ypa, ysc, yho, ypo, ypt, ysb, yfl, ytc⟩ := y
      dsimp only at *
      cases hct : (yid == id) with
      | true =>
        have q1 : (yid != id) = false := by unfold bne; rw [hct]; rfl
        have O5 : Hid (wr.ownsRow w1.heap.size 54 9 sl Y2.length (frCells Y2)) := by
          show World.ownsRow _ _ _ _ _ _ _
          rw [HYes.out hct, HM.out]
          exact HO.out
        clear HYes HNo HO HCC hct c1 c2 c3 c4 c5 c6 c7 c8
        go_wp2
        go_roundw
        case rel => exact ⟨k + 1, _, rfl, by omega, by go_num, by rw [hY2]; exact O5, HB, HC⟩
        case measure => simp [intOf]; omega
      | false =>
        have q1 : (yid != id) = true := by unfold bne; rw [hct]; rfl
        have HY2 : Hid (Y2 = Y ++ [⟨yid, ypa, ysc, yho, ypo, ypt, ysb, yfl, ytc⟩]) := HNo.out hct
        clear HYes HNo hct HC
        go_wp2_with (at_builtin; go_must (refine wpList_append_own_at _ rfl _ _ 29 rfl w1.heap.size 54 i0 (.agg #[.int .i64 0, .int .i64 0, .string ⟨#[]⟩, .string ⟨#[]⟩, .int .i64 0, .string ⟨#[]⟩, .bool false, .bool false, .int .i64 0]) 9 88 Tryd.underlying29 hi hy0 hy1 hy2 rfl (by decide) _ _ _ rfl (HO.out.alloc _) ⟨wr.heap.size, 0, none⟩ 1 1 (frVals ⟨yid, ypa, ysc, yho, ypo, ypt, ysb, yfl, ytc⟩) rfl rfl (cell_Fr _ ⟨yid, ypa, ysc, yho, ypo, ypt, ysb, yfl, ytc⟩ _) (one_Fr ⟨yid, ypa, ysc, yho, ypo, ypt, ysb, yfl, ytc⟩) (by unfold maxLen; omega) (by omega) (by simp; omega) ?_))
        intro v1 w4 ho1 hg1 hn1 hob
        have hb4 : Below w1.heap.size w1 w4 := (HB.out.alloc HB.out.size _).grown hg1 (Nat.le_trans HB.out.size (by simp)) (fun j hj => own_base HO.out j hj)
        have O5 : Hid (w4.ownsRow w1.heap.size 54 9 v1 Y2.length (frCells Y2)) := by
          show World.ownsRow _ _ _ _ _ _ _
          rw [HY2.out, ← HSN.out, List.length_append, HM.out]
          exact ho1
        have B4 : Hid (Below w1.heap.size w1 w4) := hb4
        have HC4 : Hid (∀ g', (some ⟨g, 0, none⟩ : Option Addr) = some ⟨g', 0, none⟩ → 0 < M.length → (v1.ownBlock ≠ some g' ∧ g' < w4.heap.size ∧ ∀ j, j < M.length → ∀ o, o < 9 → w4.cell? ⟨g', j * 9 + o, none⟩ = some (frC (atF M j) o))) := fun g' e _ => by
          have : g = g' := by injection e with e; injection e
          subst this
          have hz := hg1.size
          rw [World.size_alloc] at hz
          refine ⟨?_, by omega, fun j hj o ho => ?_⟩
          · rcases hob with h | h
            · rw [h]; exact hne
            · rw [h]; intro e; have h5 : wr.heap.size + 1 = g := Option.some.inj e; omega
          · rw [World.cell?_of_block (a := ⟨g, j * 9 + o, none⟩) (hg1.block g (by rw [World.size_alloc]; omega) (fun e => hne e.symm)), World.cell?_of_block (a := ⟨g, j * 9 + o, none⟩) (Below.block ((Below.refl wr.heap.size wr).alloc (Nat.le_refl _) _) g hgw)]
            exact HCC.out j hj o ho
        clear ho1 hg1 hn1 hb4 hob HCC c0 c1 c2 c3 c4 c5 c6 c7 c8 HO
        go_wp2
        go_roundw
        case rel => exact ⟨k + 1, _, rfl, by omega, by go_num, by rw [hY2]; exact O5, B4, HC4⟩
        case measure => simp [intOf]; omega
    · have hkL : k = M.length := by omega
      subst hkL
      have S7 : Hid (SliceF wr w1.heap.size sl (M.filter P)) := by
        have h := HO.out
        rw [List.take_length] at h
        exact sliceF_of_own h
      have X7 : Hid (BoxV wr w.heap.size [.slice none 0 0, .int .i64 0, .int .i64 0]) := X1.out.below HB.out
      have B7 : Hid (Below w.heap.size w wr) := B1.out.trans (HB.out.mono B1.out.size)
      have hlt7 : w.heap.size < w1.heap.size := X1.out.1
      obtain ⟨pq, cq, hv7⟩ : ∃ pq cq, sl = .slice pq (M.filter P).length cq := by obtain ⟨⟨p, c, e, -⟩, -⟩ := S7.out; exact ⟨p, c, e⟩
      clear HO HC HG
      generalize hm : (M.filter P).length = m at *
      subst hv7
      have x0 : wr.cell? ⟨w.heap.size, 0, none⟩ = some (.slice none 0 0) := X7.out.at (i := 0) rfl
      have xf0 : wr.frozen? ⟨w.heap.size, 0, none⟩ = false := X7.out.free (i := 0) rfl
      have x1 : wr.cell? ⟨w.heap.size, 1, none⟩ = some (.int .i64 0) := X7.out.at (i := 1) rfl
      have xf1 : wr.frozen? ⟨w.heap.size, 1, none⟩ = false := X7.out.free (i := 1) rfl
      have x2 : wr.cell? ⟨w.heap.size, 2, none⟩ = some (.int .i64 0) := X7.out.at (i := 2) rfl
      have xf2 : wr.frozen? ⟨w.heap.size, 2, none⟩ = false := X7.out.free (i := 2) rfl
      go_wp2
      refine bodyPost_ret (v := .agg #[.slice pq m cq, .int .i64 id, .int .i64 0]) (by simp [results, Tryd.results20, go_sem, x0, x1, x2]) rfl ⟨_, rfl, ⟨.slice pq m cq, by rw [HQ.out], by rw [HQ.out]; exact (S7.out.store3 hlt7).mono (by omega)⟩, (Below.setCell (Below.setCell (Below.setCell B7.out (Nat.le_refl _) _) (Nat.le_refl _) _) (Nat.le_refl _) _)⟩
end Go.Proofs.YtclpamjgglfljaaDoor

/- What a frame's shutting takes: those that have it on their way, told in two ways. -/
namespace Go.Proofs.YtclpamjgglfljaaDoor
open Go.RowKit

theorem way_any {L : List Fr} (h : framesB L = true) {z : Int} (hz : hereF L z = true) : ∀ k, k < L.length → (wayF L (atF L k).id).any (fun f => f.id == z) = ((atF L k).id == z || inF L (atF L k).id z) := by
  intro k
  induction k using Nat.strongRecOn with
  | ind k ih =>
    intro hk
    have e1 : (wayF L (atF L k).id).any (fun f => f.id == z) = ((atF L k).id == z || (wayF L (atF L k).pa).any (fun f => f.id == z)) := by
      rw [wayF_here h (here_at h hk).1, (here_at h hk).2, List.any_cons]
    rw [e1, inF_at h hk]
    by_cases hp : (atF L k).pa = 0
    · have h0 := zero_away h
      rw [hp, wayF_none h0, inF_none z h0]
      have h1 : ((0 : Int) == z) = false := by
        rw [beq_eq_false_iff_ne]
        rintro rfl
        rw [h0] at hz; cases hz
      rw [h1]
      rfl
    · obtain ⟨j, hj, -, ej⟩ := parent_here h hk hp
      rw [← ej, ih j hj (by omega)]
/-- those that stay, as the program picks them -/
def stayF (L : List Fr) (z : Int) : List Fr := L.filter (fun f => !((wayF L f.id).any (fun g => g.id == z)))
theorem stayF_shut {L : List Fr} (h : framesB L = true) {z : Int} (hz : hereF L z = true) : stayF L z = (innerF L z).filter (fun f => !(f.id == z)) := by
  unfold stayF innerF
  rw [List.filter_filter]
  refine List.filter_congr fun f hf => ?_
  obtain ⟨k, hk, rfl⟩ := List.mem_iff_getElem.1 hf
  rw [← atF_get hk, way_any h hz k hk]
  cases (atF L k).id == z <;> cases inF L (atF L k).id z <;> rfl
theorem shutF_stay {L : List Fr} {id : Int} (h : ¬ 400 < L.length) (h1 : framesB L = true) (h2 : hereF L id = true) : shutF L id = ⟨stayF L id, id, 0⟩ := by
  rw [shutF_ok h h1 h2, stayF_shut h1 h2]
end Go.Proofs.YtclpamjgglfljaaDoor

/- The walk of the program's FrameOpen. Written by implopen.py. -/
namespace Go.Proofs.YtclpamjgglfljaaDoor
open Go.RowKit

theorem withF_none (L : List Fr) : withF [] L = L := by
  unfold withF
  rw [List.filter_eq_self]
  intro x _; rfl
theorem uF_sizes {f : Fr} (h : uF f = true) : f.sc.size ≤ 1000000 ∧ f.ho.size ≤ 1000000 ∧ f.pt.size ≤ 1000000 := by
  obtain ⟨h1, h2, -, -, h3⟩ := urlB_parts h
  omega
theorem below_cell9 {A w : World} {g : Nat} (h : Below A.heap.size A w) (j : Nat) (hg : g < A.heap.size) : w.cell? ((⟨g, 0, none⟩ : Addr).add j) = A.cell? ((⟨g, 0, none⟩ : Addr).add j) := by
  have e : (⟨g, 0, none⟩ : Addr).add j = ⟨g, j, none⟩ := by unfold Addr.add; split <;> simp_all
  rw [e]
  exact World.cell?_of_block (a := ⟨g, j, none⟩) (h.block g hg)
theorem okF_u9 {L : List Fr} {k : Nat} (h : okF L k = true) : uF (atF L k) = true := by
  unfold okF frB at h
  simp only [Bool.and_eq_true] at h
  exact h.1.1.1.1.2
end Go.Proofs.YtclpamjgglfljaaDoor

/- The walk of the program's FrameShut. Written by implshutf.py. -/
namespace Go.Proofs.YtclpamjgglfljaaDoor
open Go.RowKit

theorem shut_contains {L : List Fr} (I : List Int) {f : Fr} (hf : f ∈ L) : (shutI L I L.length).contains f.id = takesF L I f.id := by
  rw [Bool.eq_iff_iff, List.contains_iff_mem]
  unfold shutI
  rw [List.take_length, List.mem_map]
  constructor
  · rintro ⟨g, hg, e⟩
    rw [List.mem_filter] at hg
    rw [← e]; exact hg.2
  · intro h
    exact ⟨f, List.mem_filter.2 ⟨hf, h⟩, rfl⟩
theorem withF_shut (L : List Fr) (I : List Int) : withF (shutI L I L.length) L = L.filter (fun f => !(takesF L I f.id)) := by
  unfold withF
  exact List.filter_congr fun f hf => by rw [shut_contains I hf]
theorem withF_stay (L : List Fr) (z : Int) : withF (shutI L [z] L.length) L = stayF L z := by
  rw [withF_shut]
  unfold stayF takesF
  refine List.filter_congr fun f _ => ?_
  have e : (fun g : Fr => [z].contains g.id) = fun g : Fr => g.id == z := by funext g; rw [Bool.eq_iff_iff]; simp
  rw [e]
theorem sliceN_of_own {w : World} {B : Nat} {t : TypeId} {v : Value} {I : List Int} (h : w.ownsRow B t 1 v I.length (intsV I)) : SliceN w B v I :=
  sliceR_of_own h (fun j hj o ho => by
    have e : j * 1 + o = j := by omega
    rw [e]
    unfold intsV
    rw [List.getElem?_map, List.getElem?_eq_getElem hj, List.getD_eq_getElem?_getD, List.getElem?_eq_getElem hj]
    rfl)
theorem sliceN_one (w : World) (z : Int) (t : TypeId) : SliceN (w.alloc (.cells #[.int .i64 z] t)) w.heap.size (.slice (some ⟨w.heap.size, 0, none⟩) 1 1) [z] :=
  ⟨_, 1, rfl, fun _ => ⟨w.heap.size, rfl, Nat.le_refl _, by simp, fun j hj o ho => by
    have hj0 : j = 0 := by simpa using hj
    have ho0 : o = 0 := by omega
    subst hj0 ho0
    exact ⟨by rw [World.cell?_alloc_new]; rfl, by simp⟩⟩⟩
theorem shutF_len (L : List Fr) (id : Int) : (shutF L id).ar.length ≤ 17 := by
  unfold shutF
  split
  · exact Nat.zero_le _
  · split
    · exact Nat.zero_le _
    · rename_i h1
      split
      · exact Nat.zero_le _
      · show ((innerF L id).filter _).length ≤ 17
        have h2 : framesB L = true := by cases h : framesB L <;> simp_all
        have h3 := (framesB_parts h2).1
        have h4 : (innerF L id).length ≤ L.length := List.length_filter_le _ _
        exact Nat.le_trans (List.length_filter_le _ _) (by omega)
set_option maxRecDepth 10000 in
set_option maxHeartbeats 16000000 in
theorem frameShut_any (v : Value) (L : List Fr) (B : Nat) (id : Int) (w : World) (hG : MaxI w) (hs : SliceF w B v L) (hn : L.length ≤ 1048576) (hh : ∀ i, i < L.length → (atF L i).ho.size ≤ 1048576) :
    Calls Tryd.prog 21 #[v, .int .i64 id] w fun e w' => ∃ v', e = .returned v' ∧ AnsF w' w.heap.size v' (shutF L id) ∧ Below w.heap.size w w' := by
  have KR : Hid (∀ W, Below w.heap.size w W → Calls Tryd.prog 29 #[v] W fun e w' => e = .returned (.bool (framesB L)) ∧ Below W.heap.size W w') := fun W hb => framesRight_any v L B W (hG.on hb) (hs.below hb) hn hh
  have KA : Hid (∀ W, Below w.heap.size w W → Calls Tryd.prog 32 #[v, .int .i64 id] W fun e w' => e = .returned (.int .i64 (whF L id)) ∧ Below W.heap.size W w') := fun W hb => placeOf9_any v L B id W (hs.below hb) hn
  have KN : Hid (framesB L = true → ∀ sv Bs W, Below w.heap.size w W → SliceN W Bs sv [id] → Calls Tryd.prog 34 #[v, sv] W fun e w' => ∃ v', e = .returned v' ∧ w'.ownsRow W.heap.size 2 1 v' (shutI L [id] L.length).length (intsV (shutI L [id] L.length)) ∧ Below W.heap.size W w') := fun hL sv Bs W hb h => shutWith_any v sv L [id] B Bs W (hs.below hb) hL h (by simp)
  have KW : Hid (framesB L = true → ∀ sv Bs W, Below w.heap.size w W → SliceN W Bs sv (shutI L [id] L.length) → Calls Tryd.prog 33 #[v, sv] W fun e w' => ∃ v', e = .returned v' ∧ w'.ownsRow W.heap.size 54 9 v' (stayF L id).length (frCells (stayF L id)) ∧ Below W.heap.size W w') := fun hL sv Bs W hb h => by
    have h10 := (framesB_parts hL).1
    have k := framesWithout_any v sv L (shutI L [id] L.length) B Bs W (hs.below hb) (by omega) h (Nat.le_trans (shutI_len _ _ _) (by omega)) (fun i hi => uF_sizes (okF_u9 ((framesB_parts hL).2 i hi)))
    rw [withF_stay] at k
    exact k
  obtain ⟨W0, hW⟩ : ∃ W0, W0 = w.alloc (.cells #[.slice none 0 0, .int .i64 0, .int .i64 0] 31) := ⟨_, rfl⟩
  have hW0 : Hid (W0 = w.alloc (.cells #[.slice none 0 0, .int .i64 0, .int .i64 0] 31)) := hW
  have X0 : Hid (BoxV W0 w.heap.size [.slice none 0 0, .int .i64 0, .int .i64 0]) := by show BoxV _ _ _; rw [hW]; exact boxV_new w [.slice none 0 0, .int .i64 0, .int .i64 0] 31
  have B0 : Hid (Below w.heap.size w W0) := by show Below _ _ _; rw [hW]; exact (Below.refl _ _).alloc (Nat.le_refl _) _
  obtain ⟨p, cap, rfl⟩ : ∃ p cap, v = .slice p L.length cap := by obtain ⟨-, p, c, e, -⟩ := hs; exact ⟨p, c, e⟩
  clear hW hs hG hh
  by_cases h4 : 400 < L.length
  · have q4 : decide ((400 : Int) < (L.length : Int)) = true := by rw [decide_eq_true_iff]; omega
    have HQ : Hid (shutF L id = ⟨[], 0, 2⟩) := by show _ = _; exact shutF_size h4
    have x0 : W0.cell? ⟨w.heap.size, 0, none⟩ = some (.slice none 0 0) := X0.out.at (i := 0) rfl
    have xf0 : W0.frozen? ⟨w.heap.size, 0, none⟩ = false := X0.out.free (i := 0) rfl
    have x1 : W0.cell? ⟨w.heap.size, 1, none⟩ = some (.int .i64 0) := X0.out.at (i := 1) rfl
    have xf1 : W0.frozen? ⟨w.heap.size, 1, none⟩ = false := X0.out.free (i := 1) rfl
    have x2 : W0.cell? ⟨w.heap.size, 2, none⟩ = some (.int .i64 0) := X0.out.at (i := 2) rfl
    have xf2 : W0.frozen? ⟨w.heap.size, 2, none⟩ = false := X0.out.free (i := 2) rfl
    go_enter Tryd.func21, Tryd.ntmps21
    go_upto_region 1 with fail
    rw [← hW0.out]
    clear hW0
    go_wp2
    exact bodyPost_ret (v := .agg #[.slice none 0 0, .int .i64 0, .int .i64 2]) (by simp [results, Tryd.results21, go_sem, x0, x1, x2]) rfl ⟨_, rfl, ⟨.slice none 0 0, by rw [HQ.out], by rw [HQ.out]; exact sliceF_none _ _⟩, (Below.setCell (Below.setCell (Below.setCell B0.out (Nat.le_refl _) _) (Nat.le_refl _) _) (Nat.le_refl _) _)⟩
  have q4 : decide ((400 : Int) < (L.length : Int)) = false := by rw [decide_eq_false_iff_not]; omega
  go_enter Tryd.func21, Tryd.ntmps21
  go_upto_region 1 with fail
  rw [← hW0.out]
  clear hW0
  go_wp2_with fail
  refine (KR.out _ B0.out).mono ?_
  rintro e w1 ⟨rfl, hb1⟩
  have X1 : Hid (BoxV w1 w.heap.size [.slice none 0 0, .int .i64 0, .int .i64 0]) := X0.out.below hb1
  have B1 : Hid (Below w.heap.size w w1) := B0.out.trans (hb1.mono B0.out.size)
  clear hb1 X0 B0 KR
  cases hfb : framesB L with
  | false =>
    have HQ : Hid (shutF L id = ⟨[], 0, 1⟩) := by show _ = _; exact shutF_form h4 hfb
    have x0 : w1.cell? ⟨w.heap.size, 0, none⟩ = some (.slice none 0 0) := X1.out.at (i := 0) rfl
    have xf0 : w1.frozen? ⟨w.heap.size, 0, none⟩ = false := X1.out.free (i := 0) rfl
    have x1 : w1.cell? ⟨w.heap.size, 1, none⟩ = some (.int .i64 0) := X1.out.at (i := 1) rfl
    have xf1 : w1.frozen? ⟨w.heap.size, 1, none⟩ = false := X1.out.free (i := 1) rfl
    have x2 : w1.cell? ⟨w.heap.size, 2, none⟩ = some (.int .i64 0) := X1.out.at (i := 2) rfl
    have xf2 : w1.frozen? ⟨w.heap.size, 2, none⟩ = false := X1.out.free (i := 2) rfl
    go_wp2
    exact bodyPost_ret (v := .agg #[.slice none 0 0, .int .i64 0, .int .i64 1]) (by simp [results, Tryd.results21, go_sem, x0, x1, x2]) rfl ⟨_, rfl, ⟨.slice none 0 0, by rw [HQ.out], by rw [HQ.out]; exact sliceF_none _ _⟩, (Below.setCell (Below.setCell (Below.setCell B1.out (Nat.le_refl _) _) (Nat.le_refl _) _) (Nat.le_refl _) _)⟩
  | true =>
  go_wp2_with fail
  refine (KA.out _ B1.out).mono ?_
  rintro e w2 ⟨rfl, hb2⟩
  have X2 : Hid (BoxV w2 w.heap.size [.slice none 0 0, .int .i64 0, .int .i64 0]) := X1.out.below hb2
  have B2 : Hid (Below w.heap.size w w2) := B1.out.trans (hb2.mono B1.out.size)
  clear hb2 X1 B1 KA
  have hwd : hereF L id = decide (0 ≤ whF L id) := rfl
  cases hh : hereF L id with
  | false =>
    have hw : whF L id < 0 := by rw [hwd, decide_eq_false_iff_not] at hh; omega
    have HQ0 : shutF L id = ⟨[], 0, 6⟩ := shutF_none h4 hfb hh
    clear hh hwd
    generalize whF L id = k at *
    have HQ : Hid (shutF L id = ⟨[], 0, 6⟩) := by show _ = _; exact HQ0
    have x0 : w2.cell? ⟨w.heap.size, 0, none⟩ = some (.slice none 0 0) := X2.out.at (i := 0) rfl
    have xf0 : w2.frozen? ⟨w.heap.size, 0, none⟩ = false := X2.out.free (i := 0) rfl
    have x1 : w2.cell? ⟨w.heap.size, 1, none⟩ = some (.int .i64 0) := X2.out.at (i := 1) rfl
    have xf1 : w2.frozen? ⟨w.heap.size, 1, none⟩ = false := X2.out.free (i := 1) rfl
    have x2 : w2.cell? ⟨w.heap.size, 2, none⟩ = some (.int .i64 0) := X2.out.at (i := 2) rfl
    have xf2 : w2.frozen? ⟨w.heap.size, 2, none⟩ = false := X2.out.free (i := 2) rfl
    go_wp2
    exact bodyPost_ret (v := .agg #[.slice none 0 0, .int .i64 0, .int .i64 6]) (by simp [results, Tryd.results21, go_sem, x0, x1, x2]) rfl ⟨_, rfl, ⟨.slice none 0 0, by rw [HQ.out], by rw [HQ.out]; exact sliceF_none _ _⟩, (Below.setCell (Below.setCell (Below.setCell B2.out (Nat.le_refl _) _) (Nat.le_refl _) _) (Nat.le_refl _) _)⟩
  | true =>
  have hw : ¬ (whF L id < 0) := by rw [hwd, decide_eq_true_iff] at hh; omega
  have qw : decide (whF L id < 0) = false := by rw [decide_eq_false_iff_not]; exact hw
  have HQ : Hid (shutF L id = ⟨stayF L id, id, 0⟩) := shutF_stay h4 hfb hh
  have KN1 : Hid (∀ sv Bs W, Below w.heap.size w W → SliceN W Bs sv [id] → Calls Tryd.prog 34 #[.slice p L.length cap, sv] W fun e w' => ∃ v', e = .returned v' ∧ w'.ownsRow W.heap.size 2 1 v' (shutI L [id] L.length).length (intsV (shutI L [id] L.length)) ∧ Below W.heap.size W w') := KN.out hfb
  have KW1 : Hid (∀ sv Bs W, Below w.heap.size w W → SliceN W Bs sv (shutI L [id] L.length) → Calls Tryd.prog 33 #[.slice p L.length cap, sv] W fun e w' => ∃ v', e = .returned v' ∧ w'.ownsRow W.heap.size 54 9 v' (stayF L id).length (frCells (stayF L id)) ∧ Below W.heap.size W w') := KW.out hfb
  clear hh hwd hw KN KW
  generalize whF L id = wh at *
  generalize shutI L [id] L.length = J at *
  generalize stayF L id = M at *
  have S2 := sliceN_one w2 id 2
  have A2 : Below w2.heap.size w2 (w2.alloc (.cells #[.int .i64 id] 2)) := (Below.refl _ _).alloc (Nat.le_refl _) _
  have HS2 : Hid (SliceN (w2.alloc (.cells #[.int .i64 id] 2)) w2.heap.size (.slice (some ⟨w2.heap.size, 0, none⟩) 1 1) [id]) := S2
  have HA2 : Hid (Below w2.heap.size w2 (w2.alloc (.cells #[.int .i64 id] 2))) := A2
  clear S2 A2
  go_wp2_with fail
  refine (KN1.out _ _ _ (B2.out.trans (HA2.out.mono B2.out.size)) HS2.out).mono ?_
  rintro e w3 ⟨jv, rfl, oj, hb3⟩
  have X3 : Hid (BoxV w3 w.heap.size [.slice none 0 0, .int .i64 0, .int .i64 0]) := (X2.out.below HA2.out).below hb3
  have B3 : Hid (Below w.heap.size w w3) := (B2.out.trans (HA2.out.mono B2.out.size)).trans (hb3.mono (B2.out.trans (HA2.out.mono B2.out.size)).size)
  have OJ : Hid (SliceN w3 (w2.alloc (.cells #[.int .i64 id] 2)).heap.size jv J) := sliceN_of_own oj
  clear hb3 oj X2 B2 KN1 HS2 HA2
  go_wp2_with fail
  refine (KW1.out _ _ _ B3.out OJ.out).mono ?_
  rintro e w4 ⟨mv, rfl, om, hb4⟩
  have X4 : Hid (BoxV w4 w.heap.size [.slice none 0 0, .int .i64 0, .int .i64 0]) := X3.out.below hb4
  have B4 : Hid (Below w.heap.size w w4) := B3.out.trans (hb4.mono B3.out.size)
  have S4 : Hid (SliceF w4 w3.heap.size mv M) := sliceF_of_own om
  have z3 : w.heap.size < w3.heap.size := X3.out.1
  have HZ3 : Hid (w.heap.size < w3.heap.size) := z3
  clear z3 hb4 om X3 B3 KW1 OJ
  obtain ⟨pm, cm, hmv⟩ : ∃ pm cm, mv = .slice pm M.length cm := by obtain ⟨-, p, c, e, -⟩ := S4.out; exact ⟨p, c, e⟩
  have S5 : Hid (SliceF w4 w3.heap.size (.slice pm M.length cm) M) := by show SliceF _ _ _ _; rw [← hmv]; exact S4.out
  subst hmv
  clear S4
  have x0 : w4.cell? ⟨w.heap.size, 0, none⟩ = some (.slice none 0 0) := X4.out.at (i := 0) rfl
  have xf0 : w4.frozen? ⟨w.heap.size, 0, none⟩ = false := X4.out.free (i := 0) rfl
  have x1 : w4.cell? ⟨w.heap.size, 1, none⟩ = some (.int .i64 0) := X4.out.at (i := 1) rfl
  have xf1 : w4.frozen? ⟨w.heap.size, 1, none⟩ = false := X4.out.free (i := 1) rfl
  have x2 : w4.cell? ⟨w.heap.size, 2, none⟩ = some (.int .i64 0) := X4.out.at (i := 2) rfl
  have xf2 : w4.frozen? ⟨w.heap.size, 2, none⟩ = false := X4.out.free (i := 2) rfl
  go_wp2
  refine bodyPost_ret (v := .agg #[.slice pm M.length cm, .int .i64 id, .int .i64 0]) (by simp [results, Tryd.results21, go_sem, x0, x1, x2]) rfl ⟨_, rfl, ⟨.slice pm M.length cm, by rw [HQ.out], ?_⟩, (Below.setCell (Below.setCell (Below.setCell B4.out (Nat.le_refl _) _) (Nat.le_refl _) _) (Nat.le_refl _) _)⟩
  rw [HQ.out]
  exact (SliceF.store3 S5.out HZ3.out).mono (Nat.le_of_lt HZ3.out)
end Go.Proofs.YtclpamjgglfljaaDoor

/- The walks of the specification's OriginText and OriginSame. -/
namespace Go.Proofs.YtclpamjgglfljaaDoor
open Go.RowKit

theorem placeB_parts {sc ho : ByteArray} {po : Int} (h : placeB sc ho po = true) : sc.size ≤ 5 ∧ ho.size ≤ 100 ∧ 1 ≤ po ∧ po ≤ 65535 := by
  unfold placeB at h
  simp only [Bool.and_eq_true, decide_eq_true_eq] at h
  obtain ⟨⟨h1, h2⟩, h3, h4⟩ := h
  refine ⟨schemeB_size h1, ?_, h3, h4⟩
  by_cases hz : 100 < ho.size
  · rw [hostB_size hz] at h2; cases h2
  · omega

/-- field by field -/
def sameF (sc ho : ByteArray) (po no : Int) (sc2 ho2 : ByteArray) (po2 no2 : Int) : Bool := (sc.toList == sc2.toList) && (ho.toList == ho2.toList) && (po == po2) && (no == no2)
/-- are two right origins the same? -/
def sameO (sc ho : ByteArray) (po no : Int) (sc2 ho2 : ByteArray) (po2 no2 : Int) : Bool := originB sc ho po no && originB sc2 ho2 po2 no2 && sameF sc ho po no sc2 ho2 po2 no2
end Go.Proofs.YtclpamjgglfljaaDoor

/- The first place of a text in another one, and the number that digits tell, as plain functions. -/
namespace Go.Proofs.YtclpamjgglfljaaDoor
/-- does x stand in t at place i? -/
def isAt (t x : ByteArray) (i : Nat) : Bool := (t.extract i (i + x.size)).toList == x.toList
/-- the first place of x in t among the first i ones -/
def findTo (t x : ByteArray) : Nat → Option Nat
  | 0 => none
  | i + 1 => match findTo t x i with
    | some k => some k
    | none => if i + x.size ≤ t.size ∧ isAt t x i = true then some i else none
def findN (t x : ByteArray) : Option Nat := findTo t x (t.size + 1)
/-- as the specification tells it: -1 of none -/
def findI (t x : ByteArray) : Int := match findN t x with | some k => (k : Int) | none => -1
theorem findTo_hit {t x : ByteArray} {i : Nat} (h : findTo t x i = none) (h1 : i + x.size ≤ t.size) (h2 : isAt t x i = true) : findTo t x (i + 1) = some i := by
  rw [findTo, h]; simp [h1, h2]
theorem findTo_miss {t x : ByteArray} {i : Nat} (h : findTo t x i = none) (h2 : ¬ (i + x.size ≤ t.size ∧ isAt t x i = true)) : findTo t x (i + 1) = none := by
  rw [findTo, h]; simp only; rw [if_neg h2]
theorem findTo_keep {t x : ByteArray} {i k : Nat} (h : findTo t x i = some k) (j : Nat) : findTo t x (i + j) = some k := by
  induction j with
  | zero => exact h
  | succ j ih => rw [← Nat.add_assoc, findTo, ih]
theorem findTo_after {t x : ByteArray} {i : Nat} (h : findTo t x i = none) (hi : t.size < i + x.size) (j : Nat) : findTo t x (i + j) = none := by
  induction j with
  | zero => exact h
  | succ j ih => rw [← Nat.add_assoc]; exact findTo_miss ih (by omega)
theorem findTo_lt {t x : ByteArray} {i k : Nat} (h : findTo t x i = some k) : k < i ∧ k + x.size ≤ t.size ∧ isAt t x k = true := by
  induction i with
  | zero => cases h
  | succ i ih =>
    rw [findTo] at h
    cases hf : findTo t x i with
    | some m =>
      rw [hf] at h
      obtain rfl : m = k := by simpa using h
      have := ih hf
      exact ⟨by omega, this.2⟩
    | none =>
      rw [hf] at h
      simp only at h
      split at h
      · rename_i hc
        obtain rfl : i = k := by simpa using h
        exact ⟨by omega, hc⟩
      · cases h
theorem findI_hit {t x : ByteArray} {i : Nat} (h : findTo t x i = none) (h1 : i + x.size ≤ t.size) (h2 : isAt t x i = true) : findI t x = i := by
  have h3 := findTo_keep (findTo_hit h h1 h2) (t.size - i)
  unfold findI findN
  rw [show t.size + 1 = i + 1 + (t.size - i) by omega, h3]
theorem findI_none {t x : ByteArray} {i : Nat} (h : findTo t x i = none) (hi : t.size < i + x.size) (hle : i ≤ t.size + 1) : findI t x = -1 := by
  have h3 := findTo_after h hi (t.size + 1 - i)
  unfold findI findN
  rw [show t.size + 1 = i + (t.size + 1 - i) by omega, h3]
/-- the number of the first i bytes as digits -/
def numTo (t : ByteArray) : Nat → Nat
  | 0 => 0
  | i + 1 => if h : i < t.size then 10 * numTo t i + (t[i].toNat - 48) else numTo t i
theorem numTo_succ {t : ByteArray} {i : Nat} (h : i < t.size) : numTo t (i + 1) = 10 * numTo t i + (t[i].toNat - 48) := by rw [numTo, dif_pos h]
theorem numTo_lt (t : ByteArray) (hd : ∀ i (h : i < t.size), 48 ≤ t[i].toNat ∧ t[i].toNat ≤ 57) (i : Nat) : numTo t i < 10 ^ i := by
  induction i with
  | zero => exact (by decide : 0 < 10 ^ 0)
  | succ i ih =>
    rw [numTo, Nat.pow_succ]
    split
    · rename_i h
      have := hd i h
      omega
    · omega
def digC (c : Nat) : Bool := decide (48 ≤ c ∧ c ≤ 57)
/-- digits that are no number of at most nine of them: -1 -/
def numI (t : ByteArray) : Int := if 1 ≤ t.size ∧ t.size ≤ 9 ∧ (1 < t.size → ∀ h : 0 < t.size, ¬ t[0].toNat = 48) ∧ ∀ i (h : i < t.size), digC t[i].toNat = true then (numTo t t.size : Int) else -1
theorem numI_size {t : ByteArray} (h : t.size < 1 ∨ 9 < t.size) : numI t = -1 := by
  unfold numI; rw [if_neg]; rintro ⟨a, b, _⟩; omega
theorem numI_first {t : ByteArray} (h : 1 < t.size) (hc : t[0].toNat = 48) : numI t = -1 := by
  unfold numI; rw [if_neg]; rintro ⟨_, _, a, _⟩; exact a h (by omega) hc
theorem numI_at {t : ByteArray} (k : Nat) (h : k < t.size) (hk : digC t[k].toNat = false) : numI t = -1 := by
  unfold numI; rw [if_neg]; rintro ⟨_, _, _, c⟩; rw [c k h] at hk; cases hk
theorem numI_yes {t : ByteArray} (h1 : 1 ≤ t.size) (h2 : t.size ≤ 9) (h3 : 1 < t.size → ∀ h : 0 < t.size, ¬ t[0].toNat = 48) (h : ∀ i (h : i < t.size), digC t[i].toNat = true) : numI t = numTo t t.size := by
  unfold numI; rw [if_pos ⟨h1, h2, h3, h⟩]
theorem digC_yes {c : Nat} (h : 48 ≤ c ∧ c ≤ 57) : digC c = true := by unfold digC; rw [decide_eq_true_iff]; exact h
theorem digC_no {c : Nat} (h : ¬ (48 ≤ c ∧ c ≤ 57)) : digC c = false := by unfold digC; rw [decide_eq_false_iff_not]; exact h
theorem digC_of {c : Nat} (h : digC c = true) : 48 ≤ c ∧ c ≤ 57 := by unfold digC at h; rwa [decide_eq_true_iff] at h
end Go.Proofs.YtclpamjgglfljaaDoor

/- The walks of the specification's l02Find (from place 0 on) and l02Num. -/
namespace Go.Proofs.YtclpamjgglfljaaDoor
open Go.RowKit

set_option maxRecDepth 10000 in
set_option maxHeartbeats 400000 in
theorem specFind_any (t x : ByteArray) (w : World) (ht : t.size ≤ 1048576) (hx : x.size ≤ 1048576) :
    Calls Tryd.prog 66 #[.string t, .int .i64 0, .string x] w fun e w' => e = .returned (.int .i64 (findI t x)) ∧ w' = w := by
  go_enter Tryd.func66, Tryd.ntmps66
  go_wp2
  go_loop [7] (fun i => ∃ k : Nat, k ≤ t.size + 1 ∧ i = .int .i64 k ∧ Hid (findTo t x k = none)) (fun i => t.size + 1 - (intOf i).toNat)
  case atStart => exact ⟨0, by omega, rfl, rfl⟩
  case round =>
    obtain ⟨k, hk, rfl, HN⟩ := hrel
    by_cases hle : k + x.size ≤ t.size
    · cases hat : isAt t x k with
      | true =>
        have HF : Hid (findI t x = k) := findI_hit HN.out hle hat
        have q : ((t.extract k (k + x.size)).toList == x.toList) = true := hat
        clear hat
        go_wp2
        go_ret
        exact ⟨ret_int HF.out.symm, rfl⟩
      | false =>
        have HF : Hid (findTo t x (k + 1) = none) := findTo_miss HN.out (by rw [hat]; simp)
        have q : ((t.extract k (k + x.size)).toList == x.toList) = false := hat
        clear hat
        go_wp2
        go_round
        case rel => exact ⟨k + 1, by omega, by go_num, HF⟩
        case measure => simp [intOf]; omega
    · have HF : Hid (findI t x = -1) := findI_none HN.out (by omega) hk
      go_wp2
      go_ret
      exact ⟨ret_int HF.out.symm, rfl⟩
end Go.Proofs.YtclpamjgglfljaaDoor

/- The walk of the specification's RuleRight. -/
namespace Go.Proofs.YtclpamjgglfljaaDoor
open Go.RowKit

/-- does it begin with an exclamation mark? -/
def bangB (s : ByteArray) : Bool := decide (∃ h : 0 < s.size, s[0].toNat = 33)
/-- does it begin with a star and a point, and go on? -/
def starB (s : ByteArray) : Bool := decide (2 < s.size) && ((s.extract 0 2).toList == [42, 46])
/-- a right rule -/
def ruleB (s : ByteArray) : Bool := if bangB s = true then hostB (s.extract 1 s.size) && decide (0 ≤ findI s ⟨#[46]⟩) else if starB s = true then hostB (s.extract 2 s.size) else hostB s
theorem bangB_yes {s : ByteArray} (h : 0 < s.size) (h1 : s[0].toNat = 33) : bangB s = true := by unfold bangB; rw [decide_eq_true_iff]; exact ⟨h, h1⟩
theorem bangB_no {s : ByteArray} (h : ¬ ∃ h : 0 < s.size, s[0].toNat = 33) : bangB s = false := by unfold bangB; rw [decide_eq_false_iff_not]; exact h
theorem ruleB_bang {s : ByteArray} (h : bangB s = true) : ruleB s = (hostB (s.extract 1 s.size) && decide (0 ≤ findI s ⟨#[46]⟩)) := by rw [ruleB, if_pos h]
theorem ruleB_star {s : ByteArray} (h : bangB s = false) (h2 : starB s = true) : ruleB s = hostB (s.extract 2 s.size) := by rw [ruleB, if_neg (by simp [h]), if_pos h2]
theorem ruleB_host {s : ByteArray} (h : bangB s = false) (h2 : starB s = false) : ruleB s = hostB s := by rw [ruleB, if_neg (by simp [h]), if_neg (by simp [h2])]

set_option maxRecDepth 10000 in
set_option maxHeartbeats 400000 in
theorem specRule_any (s : ByteArray) (w : World) (hs : s.size ≤ 1048576) :
    Calls Tryd.prog 44 #[.string s] w fun e w' => e = .returned (.bool (ruleB s)) ∧ Below w.heap.size w w' := by
  by_cases hb : ∃ h : 0 < s.size, s[0].toNat = 33
  · obtain ⟨hp, h33⟩ := hb
    have HR : Hid (ruleB s = (hostB (s.extract 1 s.size) && decide (0 ≤ findI s ⟨#[46]⟩))) := ruleB_bang (bangB_yes hp h33)
    have q1 : ((s[0].toNat : Int) == 33) = true := by rw [beq_iff_eq]; omega
    have H1 := fun W => specHost_any (s.extract 1 s.size) W
    have H2 := fun W => specFind_any s ⟨#[46]⟩ W hs (by decide)
    generalize hostB (s.extract 1 s.size) = b at *
    generalize findI s ⟨#[46]⟩ = f at *
    have G1 : Hid (∀ W, Calls Tryd.prog 65 #[.string (s.extract 1 s.size)] W fun e w' => e = .returned (.bool b) ∧ Below W.heap.size W w') := H1
    have G2 : Hid (∀ W, Calls Tryd.prog 66 #[.string s, .int .i64 0, .string ⟨#[46]⟩] W fun e w' => e = .returned (.int .i64 f) ∧ w' = W) := H2
    clear H1 H2 h33
    cases b with
    | false =>
      go_enter Tryd.func44, Tryd.ntmps44
      go_wp2_with (go_at_call 65; refine (G1.out _).mono ?_; rintro e w1 ⟨rfl, hb1⟩)
      go_ret
      exact ⟨ret_bool (by rw [HR.out]; rfl), hb1⟩
    | true =>
      go_enter Tryd.func44, Tryd.ntmps44
      go_wp2_with (first | (go_at_call 65; refine (G1.out _).mono ?_; rintro e w1 ⟨rfl, hb1⟩) | (go_at_call 66; refine (G2.out _).mono ?_; rintro e w2 ⟨rfl, rfl⟩))
      go_ret
      exact ⟨ret_bool (by rw [HR.out]; rfl), hb1⟩
  · have hbf := bangB_no hb
    cases hst : starB s with
    | true =>
      have HR : Hid (ruleB s = hostB (s.extract 2 s.size)) := ruleB_star hbf hst
      unfold starB at hst
      rw [Bool.and_eq_true, decide_eq_true_eq] at hst
      obtain ⟨h2, q3⟩ := hst
      have hp : 0 < s.size := by omega
      have q1 : ((s[0].toNat : Int) == 33) = false := by
        rw [beq_eq_false_iff_ne]
        intro e
        exact hb ⟨hp, by omega⟩
      have H1 := fun W => specHost_any (s.extract 2 s.size) W
      generalize hostB (s.extract 2 s.size) = b at *
      have G1 : Hid (∀ W, Calls Tryd.prog 65 #[.string (s.extract 2 s.size)] W fun e w' => e = .returned (.bool b) ∧ Below W.heap.size W w') := H1
      clear H1 hb hbf
      go_enter Tryd.func44, Tryd.ntmps44
      go_wp2_with (go_at_call 65; refine (G1.out _).mono ?_; rintro e w1 ⟨rfl, hb1⟩)
      go_ret
      exact ⟨ret_bool HR.out.symm, hb1⟩
    | false =>
      have HR : Hid (ruleB s = hostB s) := ruleB_host hbf hst
      have H1 := fun W => specHost_any s W
      generalize hostB s = b at *
      have G1 : Hid (∀ W, Calls Tryd.prog 65 #[.string s] W fun e w' => e = .returned (.bool b) ∧ Below W.heap.size W w') := H1
      clear H1
      unfold starB at hst
      by_cases h0 : 0 < s.size
      · have q1 : ((s[0].toNat : Int) == 33) = false := by
          rw [beq_eq_false_iff_ne]
          intro e
          exact hb ⟨h0, by omega⟩
        by_cases h2 : 2 < s.size
        · have q3 : ((s.extract 0 2).toList == [42, 46]) = false := by
            rw [decide_eq_true h2, Bool.true_and] at hst; exact hst
          clear hst hb hbf
          go_enter Tryd.func44, Tryd.ntmps44
          go_wp2_with (go_at_call 65; refine (G1.out _).mono ?_; rintro e w1 ⟨rfl, hb1⟩)
          go_ret
          exact ⟨ret_bool HR.out.symm, hb1⟩
        · have q2 : decide ((2 : Int) < (s.size : Int)) = false := by rw [decide_eq_false_iff_not]; omega
          clear hst hb hbf
          go_enter Tryd.func44, Tryd.ntmps44
          go_wp2_with (go_at_call 65; refine (G1.out _).mono ?_; rintro e w1 ⟨rfl, hb1⟩)
          go_ret
          exact ⟨ret_bool HR.out.symm, hb1⟩
      · have q0 : decide ((0 : Int) < (s.size : Int)) = false := by rw [decide_eq_false_iff_not]; omega
        have q2 : decide ((2 : Int) < (s.size : Int)) = false := by rw [decide_eq_false_iff_not]; omega
        clear hst hb hbf
        go_enter Tryd.func44, Tryd.ntmps44
        go_wp2_with (go_at_call 65; refine (G1.out _).mono ?_; rintro e w1 ⟨rfl, hb1⟩)
        go_ret
        exact ⟨ret_bool HR.out.symm, hb1⟩
end Go.Proofs.YtclpamjgglfljaaDoor

/- A slice of texts that came in; the laws' szStringS and toStringS over it. -/
namespace Go.Proofs.YtclpamjgglfljaaDoor
open Go.RowKit

/-- n texts, f of each place, that a slice leads to -/
def StrRow (w : World) (a : Option Addr) (n : Nat) (f : Nat → ByteArray) : Prop := ∀ i, i < n → ∃ x, a = some x ∧ x.block < w.heap.size ∧ w.cell? (x.add i) = some (.string (f i)) ∧ (f i).size ≤ maxLen
theorem StrRow.below {w w' : World} {a : Option Addr} {n : Nat} {f : Nat → ByteArray} (h : StrRow w a n f) (hb : Below w.heap.size w w') : StrRow w' a n f := by
  intro i hi
  obtain ⟨x, e, hx, hc, hs⟩ := h i hi
  have hxb : (x.add i).block = x.block := by unfold Addr.add; split <;> rfl
  exact ⟨x, e, Nat.lt_of_lt_of_le hx hb.size, by rw [hb.cell (p := x.add i) (by rw [hxb]; exact hx)]; exact hc, hs⟩

set_option maxRecDepth 10000 in
set_option maxHeartbeats 400000 in
theorem szStringS_any (a : Option Addr) (n cap : Nat) (f : Nat → ByteArray) (l : Int) (w : World) (hr : StrRow w a n f) (hn : n ≤ maxLen) (h0 : 0 ≤ l) (h1 : l ≤ 1048576) :
    Calls Tryd.prog 6 #[.slice a n cap, .int .i64 l] w fun e w' => (∃ r : Int, e = .returned (.int .i64 r) ∧ (r < 0 ∨ (0 ≤ r ∧ r ≤ l ∧ (n : Int) ≤ l ∧ ∀ i, i < n → ((f i).size : Int) ≤ l))) ∧ w' = w := by
  unfold maxLen at hn
  by_cases hl : l < n
  · have q : decide (l - (n : Int) < 0) = true := by rw [decide_eq_true_iff]; omega
    go_enter Tryd.func6, Tryd.ntmps6
    go_wp2
    go_ret
    exact ⟨⟨_, rfl, .inl (by decide)⟩, rfl⟩
  have q : decide (l - (n : Int) < 0) = false := by rw [decide_eq_false_iff_not]; omega
  have HR : Hid (StrRow w a n f) := hr
  clear hr
  go_enter Tryd.func6, Tryd.ntmps6
  go_wp2
  go_loop [1, 5] (fun v i => ∃ (k : Nat) (z : Int), k ≤ n ∧ v = .int .i64 z ∧ i = .int .i64 k ∧ 0 ≤ z ∧ z ≤ l ∧ Hid (∀ i, i < k → ((f i).size : Int) ≤ l)) (fun _ i => n - (intOf i).toNat)
  case atStart => exact ⟨0, _, Nat.zero_le _, rfl, rfl, by omega, by omega, fun i hi => absurd hi (by omega)⟩
  case round =>
    obtain ⟨k, z, hk, rfl, rfl, z0, zl, HS⟩ := hrel
    by_cases hlt : k < n
    · obtain ⟨x, rfl, hx, hc, hs⟩ := HR.out k hlt
      unfold maxLen at hs
      have k0 : (0 : Int) ≤ k := by omega
      have k1 : (k : Int) < n := by omega
      by_cases hz : z < (f k).size
      · have q2 : decide (z - ((f k).size : Int) < 0) = true := by rw [decide_eq_true_iff]; omega
        go_wp2
        go_ret
        exact ⟨⟨_, rfl, .inl (by decide)⟩, rfl⟩
      · have q2 : decide (z - ((f k).size : Int) < 0) = false := by rw [decide_eq_false_iff_not]; omega
        go_wp2
        go_round
        case rel =>
          refine ⟨k + 1, _, by omega, rfl, by go_num, by omega, by omega, ?_⟩
          intro i hi
          by_cases e : i = k
          · subst e; omega
          · exact HS.out i (by omega)
        case measure => simp [intOf]; omega
    · go_wp2
      go_ret
      exact ⟨⟨_, rfl, .inr (by first | exact ⟨z0, zl, by omega, fun i hi => HS.out i (by omega)⟩ | exact ⟨z0, zl, fun i hi => HS.out i (by omega)⟩)⟩, rfl⟩

theorem infoStr2 : (Tryd.prog.info? 9).map (fun i => (i.zero, i.size, i.bytes)) = some (some (.string ⟨#[]⟩), 1, 16) := by kernel_rfl
theorem make_strs (w : World) (n : Nat) (hn : n ≤ 1048576) :
    ∃ w', Sem.run Tryd.prog (Instr.makeSlice 23 (.int .i64 (n : Int)) (.int .i64 (n : Int))) w = .ok (.slice (some ⟨w.heap.size, 0, none⟩) n n) w' ∧ w.heap.size < w'.heap.size ∧
      (∀ j, j < n → w'.cell? ⟨w.heap.size, j, none⟩ = some (.string ⟨#[]⟩) ∧ w'.frozen? ⟨w.heap.size, j, none⟩ = false) ∧ Below w.heap.size w w' := by
  obtain ⟨i, h2, h3, h4, h5⟩ := info_parts infoStr2
  have hrun := run_make (P := Tryd.prog) w 23 9 i (.string ⟨#[]⟩) Tryd.underlying23 h2 h3 .i64 .i64 n n (by omega) (Int.le_refl _) (by rw [h5]; omega) (by omega)
  simp only [Int.toNat_natCast, h4, Nat.mul_one] at hrun
  refine ⟨_, hrun, by simp, fun j hj => ⟨?_, by simp⟩, (Below.refl _ _).alloc (Nat.le_refl _) _⟩
  have e : madeCells (Value.string ⟨#[]⟩).cells n = Lib.cellsOf [] n := (Lib.cellsOf_nil n).symm
  rw [e, World.cell?_alloc_new]
  simp [Lib.cellsOf, hj]
  rfl

/-- the first k of f, the others empty -/
def upto (f : Nat → ByteArray) (k j : Nat) : ByteArray := if j < k then f j else ⟨#[]⟩
theorem upto_at (f : Nat → ByteArray) (k : Nat) : upto f (k + 1) k = f k := by unfold upto; rw [if_pos (Nat.lt_succ_self _)]
theorem upto_else (f : Nat → ByteArray) (k j : Nat) (h : ¬ j = k) : upto f (k + 1) j = upto f k j := by
  unfold upto
  by_cases hj : j < k
  · rw [if_pos hj, if_pos (by omega)]
  · rw [if_neg hj, if_neg (by omega)]
theorem upto_all (f : Nat → ByteArray) (n j : Nat) (h : j < n) : upto f n j = f j := by unfold upto; rw [if_pos h]
set_option maxRecDepth 10000 in
set_option maxHeartbeats 1000000 in
theorem toStringS_any (a : Option Addr) (n cap : Nat) (f : Nat → ByteArray) (w : World) (hr : StrRow w a n f) (hn : n ≤ 1048576) :
    Calls Tryd.prog 10 #[.slice a n cap] w fun e w' => ∃ v, e = .returned v ∧ SliceS w' w.heap.size v n f ∧ Below w.heap.size w w' := by
  have HR : Hid (StrRow w a n f) := hr
  clear hr
  obtain ⟨w1, hmk, hz1, hc1, hb1⟩ := make_strs w n hn
  have HC1 : Hid (∀ j, j < n → w1.cell? ⟨w.heap.size, j, none⟩ = some (.string (upto f 0 j)) ∧ w1.frozen? ⟨w.heap.size, j, none⟩ = false) := fun j hj => ⟨by rw [upto, if_neg (by omega)]; exact (hc1 j hj).1, (hc1 j hj).2⟩
  have HB1 : Hid (Below w.heap.size w w1) := hb1
  clear hc1 hb1
  go_enter Tryd.func10, Tryd.ntmps10
  go_wp2
  clear hmk
  go_loopw [4] (fun i wr => ∃ k : Nat, k ≤ n ∧ i = .int .i64 k ∧ w.heap.size < wr.heap.size ∧ Hid (Below w.heap.size w wr) ∧ Hid (∀ j, j < n → wr.cell? ⟨w.heap.size, j, none⟩ = some (.string (upto f k j)) ∧ wr.frozen? ⟨w.heap.size, j, none⟩ = false)) (fun i _ => n - (intOf i).toNat)
  case atStart => exact ⟨0, Nat.zero_le _, rfl, hz1, HB1, HC1⟩
  case round =>
    obtain ⟨k, hk, rfl, hzr, HB, HC⟩ := hrel
    by_cases hlt : k < n
    · obtain ⟨x, rfl, hx, hc, hs⟩ := HR.out k hlt
      have hxb : (x.add k).block = x.block := by unfold Addr.add; split <;> rfl
      have hcr : wr.cell? (x.add k) = some (.string (f k)) := by rw [HB.out.cell (p := x.add k) (by rw [hxb]; exact hx)]; exact hc
      have d1 := (HC.out k hlt).1
      have d2 := (HC.out k hlt).2
      have k0 : (0 : Int) ≤ k := by omega
      have k1 : (k : Int) < n := by omega
      clear hs hc
      go_wp2
      go_roundw
      case rel =>
        refine ⟨k + 1, by omega, by go_num, ?_, ?_, ?_⟩
        · simpa [World.setCell] using hzr
        · exact HB.out.setCell (Nat.le_refl _) _
        · intro j hj
          by_cases e : j = k
          · subst e
            rw [upto_at]
            exact ⟨World.cell?_setCell_same _ _ _ d1, by rw [World.frozen?_setCell]; exact d2⟩
          · rw [upto_else f k j e, World.cell?_setCell_other _ _ _ _ (by intro h; injection h with _ h; exact e h.symm), World.frozen?_setCell]
            exact HC.out j hj
      case measure => simp [intOf]; omega
    · go_wp2
      go_ret
      refine ⟨_, rfl, ⟨_, _, rfl, fun _ => ⟨w.heap.size, rfl, Nat.le_refl _, hzr, fun j hj => ?_⟩⟩, HB.out⟩
      have h := HC.out j hj
      obtain rfl : k = n := by omega
      rw [upto_all f k j hj] at h
      exact h
end Go.Proofs.YtclpamjgglfljaaDoor

/- The walk of the specification's RulesRight. -/
namespace Go.Proofs.YtclpamjgglfljaaDoor
open Go.RowKit

/-- the rule at a place is right, and greater than the one ahead of it -/
def okR (f : Nat → ByteArray) : Nat → Bool
  | 0 => ruleB (f 0)
  | m + 1 => ruleB (f (m + 1)) && Op.bytesLess (f m).toList (f (m + 1)).toList
def rulesB (n : Nat) (f : Nat → ByteArray) : Bool := decide (∀ i, i < n → okR f i = true) && decide (n ≤ 20)
theorem rulesB_at {n : Nat} {f : Nat → ByteArray} (k : Nat) (h : k < n) (hk : okR f k = false) : rulesB n f = false := by
  unfold rulesB
  rw [decide_eq_false (fun h' => by rw [h' k h] at hk; cases hk)]; rfl
theorem rulesB_all {n : Nat} {f : Nat → ByteArray} (h : ∀ i, i < n → okR f i = true) : rulesB n f = decide (n ≤ 20) := by unfold rulesB; rw [decide_eq_true h]; rfl
theorem okR_succ {f : Nat → ByteArray} {k : Nat} (h : ∀ i, i < k → okR f i = true) (hk : okR f k = true) : ∀ i, i < k + 1 → okR f i = true := by
  intro i hi
  by_cases e : i = k
  · subst e; exact hk
  · exact h i (by omega)
theorem geq_text (t : TypeId) (a b : ByteArray) : binOp .geq t (.string a) (.string b) = pure (.bool (!(Op.bytesLess a.toList b.toList))) := by simp [binOp, Op.stringOp]

set_option maxRecDepth 10000 in
set_option maxHeartbeats 2000000 in
theorem specRules_any (v : Value) (n B : Nat) (f : Nat → ByteArray) (w : World) (hs : SliceS w B v n f) (hn : n ≤ 1048576) (hf : ∀ i, i < n → (f i).size ≤ 1048576) :
    Calls Tryd.prog 25 #[v] w fun e w' => e = .returned (.bool (rulesB n f)) ∧ Below w.heap.size w w' := by
  obtain ⟨p, cap, rfl, hg⟩ := hs
  have HG : Hid (0 < n → ∃ g, p = some ⟨g, 0, none⟩ ∧ B ≤ g ∧ g < w.heap.size ∧ ∀ j, j < n → w.cell? ⟨g, j, none⟩ = some (.string (f j)) ∧ w.frozen? ⟨g, j, none⟩ = false) := hg
  have HF : Hid (∀ i, i < n → (f i).size ≤ 1048576) := hf
  have HA : Hid ((∀ k, k < n → okR f k = false → rulesB n f = false) ∧ ((∀ i, i < n → okR f i = true) → rulesB n f = decide (n ≤ 20))) := ⟨fun k h hk => rulesB_at k h hk, fun h => rulesB_all h⟩
  clear hg hf
  have hge : ∀ (t : TypeId) (a b : ByteArray), binOp .geq t (.string a) (.string b) = pure (.bool (!(Op.bytesLess a.toList b.toList))) := geq_text
  generalize rulesB n f = R at *
  go_enter Tryd.func25, Tryd.ntmps25
  go_wp2
  go_loopw [3] (fun i wr => ∃ k : Nat, k ≤ n ∧ i = .int .i64 k ∧ Hid (Below w.heap.size w wr) ∧ Hid (∀ j, j < k → okR f j = true)) (fun i _ => n - (intOf i).toNat)
  case atStart => exact ⟨0, Nat.zero_le _, rfl, Below.refl _ _, fun j hj => absurd hj (by omega)⟩
  case round =>
    obtain ⟨k, hk, rfl, HB, HR⟩ := hrel
    by_cases hlt : k < n
    · obtain ⟨g, rfl, -, hgw, hc⟩ := HG.out (by omega)
      have hz : g < wr.heap.size := Nat.lt_of_lt_of_le hgw HB.out.size
      have hck : wr.cell? ⟨g, k, none⟩ = some (.string (f k)) := by rw [(bcell HB.out).1 _ _ hgw]; exact (hc k hlt).1
      have KR0 := fun W => specRule_any (f k) W (HF.out k hlt)
      have k0 : (0 : Int) ≤ k := by omega
      have k1 : (k : Int) < n := by omega
      cases hr : ruleB (f k) with
      | false =>
        have HQ : Hid (R = false) := HA.out.1 k hlt (by cases k with | zero => exact hr | succ m => rw [okR, hr]; rfl)
        rw [hr] at KR0
        have KR : Hid (∀ W, Calls Tryd.prog 44 #[.string (f k)] W fun e w' => e = .returned (.bool false) ∧ Below W.heap.size W w') := KR0
        clear KR0 hr hc
        generalize f k = t at *
        go_wp2_with fail
        refine wp_region_held_drew (S := (fun w' => g < w'.heap.size ∧ w'.cell? ⟨g, k, none⟩ = some (.string t))) (by kernel_rfl) ?_ (fun hH0 => ?_)
        · (try dsimp only)
          go_keep
        refine wpAnyH_take (i := 0) (oi := { dst := some 10, op := Op.move (Operand.tmp 0), type := 23, pos := "l03_site.go:17", after := #[], guard := none }) (v := ?va0) rfl (by kernel_rfl) (by kernel_rfl) (by kernel_rfl) (fun _ _ _ h => h) (Or.inl ⟨by rfl, ?hya0⟩) (by assumption) ?resta0
        case hya0 =>
          intro w hSw
          (try dsimp only at hSw)
          go_simp
          try with_reducible rfl
        try simp only [Act.put, List.setIfInBounds_toArray, List.set_cons_zero, List.set_cons_succ]
        refine wpAnyH_take (i := 1) (oi := { dst := some 11, op := Op.move (Operand.tmp 3), type := 3, pos := "l03_site.go:17", after := #[], guard := none }) (v := ?va1) rfl (by kernel_rfl) (by kernel_rfl) (by kernel_rfl) (fun _ _ _ h => h) (Or.inl ⟨by rfl, ?hya1⟩) (by assumption) ?resta1
        case hya1 =>
          intro w hSw
          (try dsimp only at hSw)
          go_simp
          try with_reducible rfl
        try simp only [Act.put, List.setIfInBounds_toArray, List.set_cons_zero, List.set_cons_succ]
        refine wpAnyH_take (i := 2) (oi := { dst := some 12, op := Op.indexAddr 23 (Operand.tmp 10) (Operand.tmp 11), type := 0, pos := "l03_site.go:17", after := #[{ on := 0, ground := Ground.data }, { on := 1, ground := Ground.data }], guard := none }) (v := ?va2) rfl (by kernel_rfl) (by kernel_rfl) (by kernel_rfl) (fun _ _ _ h => h) (Or.inl ⟨by rfl, ?hya2⟩) (by assumption) ?resta2
        case hya2 =>
          intro w hSw
          (try dsimp only at hSw)
          go_simp
          try with_reducible rfl
        try simp only [Act.put, List.setIfInBounds_toArray, List.set_cons_zero, List.set_cons_succ]
        refine wpAnyH_take (i := 3) (oi := { dst := some 13, op := Op.load 9 (Operand.tmp 12), type := 9, pos := "l03_site.go:17", after := #[{ on := 2, ground := Ground.data }], guard := none }) (v := ?va3) rfl (by kernel_rfl) (by kernel_rfl) (by kernel_rfl) (fun _ _ _ h => h) (Or.inl ⟨by rfl, ?hya3⟩) (by assumption) ?resta3
        case hya3 =>
          intro w hSw
          (try dsimp only at hSw)
          go_simp
          try with_reducible rfl
        try simp only [Act.put, List.setIfInBounds_toArray, List.set_cons_zero, List.set_cons_succ]
        refine wpAnyH_ready (rs := [4]) (by kernel_rfl) (by simp) ?_
        refine AllReadyH.cons (o := { dst := some 14, op := Op.call { callee := Callee.value (Operand.func 44), args := #[Operand.tmp 13], argTypes := #[9] }, type := 4, pos := "l03_site.go:17", after := #[{ on := 3, ground := Ground.data }], guard := none }) rfl (fun K hK => ?_) AllReadyH.nil
        go_simp
        (go_at_call 44; refine (KR.out _).mono ?_; rintro e w2 ⟨rfl, hb2⟩; have z2 : g < w2.heap.size := Nat.lt_of_lt_of_le hz hb2.size; have c2 : w2.cell? ⟨g, k, none⟩ = some (.string t) := ((bcell hb2).1 _ _ hz).trans hck)
        try (go_wp2_with fail)
        refine hK.out _ _ ?_ (fun hH1 => ?_)
        · (try dsimp only)
          go_keep
        clear hK K hH0
        try simp only [Act.put, List.setIfInBounds_toArray, List.set_cons_zero, List.set_cons_succ]
        refine wpAnyH_take (i := 5) (oi := { dst := some 15, op := Op.unOp UnOp.not 4 (Operand.tmp 14), type := 4, pos := "l03_site.go:17", after := #[{ on := 4, ground := Ground.data }], guard := none }) (v := ?va5) rfl (by kernel_rfl) (by kernel_rfl) (by kernel_rfl) (fun _ _ _ h => h) (Or.inl ⟨by rfl, ?hya5⟩) (by assumption) ?resta5
        case hya5 =>
          intro w hSw
          (try dsimp only at hSw)
          go_simp
          try with_reducible rfl
        try simp only [Act.put, List.setIfInBounds_toArray, List.set_cons_zero, List.set_cons_succ]
        refine wpAnyH_take (i := 6) (oi := { dst := some 16, op := Op.move (Operand.tmp 15), type := 4, pos := "l03_site.go:17", after := #[{ on := 5, ground := Ground.data }, { on := 4, ground := Ground.chain }], guard := none }) (v := ?va6) rfl (by kernel_rfl) (by kernel_rfl) (by kernel_rfl) (fun _ _ _ h => h) (Or.inl ⟨by rfl, ?hya6⟩) (by assumption) ?resta6
        case hya6 =>
          intro w hSw
          (try dsimp only at hSw)
          go_simp
          try with_reducible rfl
        try simp only [Act.put, List.setIfInBounds_toArray, List.set_cons_zero, List.set_cons_succ]
        refine wpAnyH_take (i := 7) (oi := { dst := some 17, op := Op.move (Operand.tmp 3), type := 3, pos := "l03_site.go:17", after := #[{ on := 6, ground := Ground.guard }], guard := some (6, false) }) (v := undef) rfl (by kernel_rfl) (by kernel_rfl) (by kernel_rfl) (fun _ _ _ h => h) (Or.inr ⟨by rfl, rfl⟩) (by assumption) ?_
        try simp only [Act.put, List.setIfInBounds_toArray, List.set_cons_zero, List.set_cons_succ]
        refine wpAnyH_take (i := 8) (oi := { dst := some 18, op := Op.binOp BinOp.gtr 3 (Operand.tmp 17) (Operand.const (Value.int IntKind.i64 0)) 3, type := 4, pos := "l03_site.go:17", after := #[{ on := 7, ground := Ground.data }, { on := 6, ground := Ground.guard }], guard := some (6, false) }) (v := undef) rfl (by kernel_rfl) (by kernel_rfl) (by kernel_rfl) (fun _ _ _ h => h) (Or.inr ⟨by rfl, rfl⟩) (by assumption) ?_
        try simp only [Act.put, List.setIfInBounds_toArray, List.set_cons_zero, List.set_cons_succ]
        refine wpAnyH_take (i := 9) (oi := { dst := some 19, op := Op.move (Operand.tmp 18), type := 4, pos := "l03_site.go:17", after := #[{ on := 8, ground := Ground.data }, { on := 6, ground := Ground.chain }, { on := 6, ground := Ground.guard }], guard := some (6, false) }) (v := undef) rfl (by kernel_rfl) (by kernel_rfl) (by kernel_rfl) (fun _ _ _ h => h) (Or.inr ⟨by rfl, rfl⟩) (by assumption) ?_
        try simp only [Act.put, List.setIfInBounds_toArray, List.set_cons_zero, List.set_cons_succ]
        refine wpAnyH_take (i := 10) (oi := { dst := some 20, op := Op.move (Operand.tmp 0), type := 23, pos := "l03_site.go:17", after := #[{ on := 9, ground := Ground.guard }], guard := some (9, true) }) (v := undef) rfl (by kernel_rfl) (by kernel_rfl) (by kernel_rfl) (fun _ _ _ h => h) (Or.inr ⟨by rfl, rfl⟩) (by assumption) ?_
        try simp only [Act.put, List.setIfInBounds_toArray, List.set_cons_zero, List.set_cons_succ]
        refine wpAnyH_take (i := 11) (oi := { dst := some 21, op := Op.move (Operand.tmp 3), type := 3, pos := "l03_site.go:17", after := #[{ on := 9, ground := Ground.guard }], guard := some (9, true) }) (v := undef) rfl (by kernel_rfl) (by kernel_rfl) (by kernel_rfl) (fun _ _ _ h => h) (Or.inr ⟨by rfl, rfl⟩) (by assumption) ?_
        try simp only [Act.put, List.setIfInBounds_toArray, List.set_cons_zero, List.set_cons_succ]
        refine wpAnyH_take (i := 12) (oi := { dst := some 22, op := Op.binOp BinOp.sub 3 (Operand.tmp 21) (Operand.const (Value.int IntKind.i64 1)) 3, type := 3, pos := "l03_site.go:17", after := #[{ on := 11, ground := Ground.data }, { on := 9, ground := Ground.guard }], guard := some (9, true) }) (v := undef) rfl (by kernel_rfl) (by kernel_rfl) (by kernel_rfl) (fun _ _ _ h => h) (Or.inr ⟨by rfl, rfl⟩) (by assumption) ?_
        try simp only [Act.put, List.setIfInBounds_toArray, List.set_cons_zero, List.set_cons_succ]
        refine wpAnyH_take (i := 13) (oi := { dst := some 23, op := Op.indexAddr 23 (Operand.tmp 20) (Operand.tmp 22), type := 0, pos := "l03_site.go:17", after := #[{ on := 10, ground := Ground.data }, { on := 12, ground := Ground.data }, { on := 9, ground := Ground.guard }], guard := some (9, true) }) (v := undef) rfl (by kernel_rfl) (by kernel_rfl) (by kernel_rfl) (fun _ _ _ h => h) (Or.inr ⟨by rfl, rfl⟩) (by assumption) ?_
        try simp only [Act.put, List.setIfInBounds_toArray, List.set_cons_zero, List.set_cons_succ]
        refine wpAnyH_take (i := 14) (oi := { dst := some 24, op := Op.load 9 (Operand.tmp 23), type := 9, pos := "l03_site.go:17", after := #[{ on := 13, ground := Ground.data }, { on := 9, ground := Ground.guard }], guard := some (9, true) }) (v := undef) rfl (by kernel_rfl) (by kernel_rfl) (by kernel_rfl) (fun _ _ _ h => h) (Or.inr ⟨by rfl, rfl⟩) (by assumption) ?_
        try simp only [Act.put, List.setIfInBounds_toArray, List.set_cons_zero, List.set_cons_succ]
        refine wpAnyH_take (i := 15) (oi := { dst := some 25, op := Op.move (Operand.tmp 0), type := 23, pos := "l03_site.go:17", after := #[{ on := 9, ground := Ground.guard }], guard := some (9, true) }) (v := undef) rfl (by kernel_rfl) (by kernel_rfl) (by kernel_rfl) (fun _ _ _ h => h) (Or.inr ⟨by rfl, rfl⟩) (by assumption) ?_
        try simp only [Act.put, List.setIfInBounds_toArray, List.set_cons_zero, List.set_cons_succ]
        refine wpAnyH_take (i := 16) (oi := { dst := some 26, op := Op.move (Operand.tmp 3), type := 3, pos := "l03_site.go:17", after := #[{ on := 9, ground := Ground.guard }], guard := some (9, true) }) (v := undef) rfl (by kernel_rfl) (by kernel_rfl) (by kernel_rfl) (fun _ _ _ h => h) (Or.inr ⟨by rfl, rfl⟩) (by assumption) ?_
        try simp only [Act.put, List.setIfInBounds_toArray, List.set_cons_zero, List.set_cons_succ]
        refine wpAnyH_take (i := 17) (oi := { dst := some 27, op := Op.indexAddr 23 (Operand.tmp 25) (Operand.tmp 26), type := 0, pos := "l03_site.go:17", after := #[{ on := 15, ground := Ground.data }, { on := 16, ground := Ground.data }, { on := 9, ground := Ground.guard }], guard := some (9, true) }) (v := undef) rfl (by kernel_rfl) (by kernel_rfl) (by kernel_rfl) (fun _ _ _ h => h) (Or.inr ⟨by rfl, rfl⟩) (by assumption) ?_
        try simp only [Act.put, List.setIfInBounds_toArray, List.set_cons_zero, List.set_cons_succ]
        refine wpAnyH_take (i := 18) (oi := { dst := some 28, op := Op.load 9 (Operand.tmp 27), type := 9, pos := "l03_site.go:17", after := #[{ on := 17, ground := Ground.data }, { on := 9, ground := Ground.guard }], guard := some (9, true) }) (v := undef) rfl (by kernel_rfl) (by kernel_rfl) (by kernel_rfl) (fun _ _ _ h => h) (Or.inr ⟨by rfl, rfl⟩) (by assumption) ?_
        try simp only [Act.put, List.setIfInBounds_toArray, List.set_cons_zero, List.set_cons_succ]
        refine wpAnyH_take (i := 19) (oi := { dst := some 29, op := Op.binOp BinOp.geq 9 (Operand.tmp 24) (Operand.tmp 28) 9, type := 4, pos := "l03_site.go:17", after := #[{ on := 14, ground := Ground.data }, { on := 18, ground := Ground.data }, { on := 9, ground := Ground.guard }], guard := some (9, true) }) (v := undef) rfl (by kernel_rfl) (by kernel_rfl) (by kernel_rfl) (fun _ _ _ h => h) (Or.inr ⟨by rfl, rfl⟩) (by assumption) ?_
        try simp only [Act.put, List.setIfInBounds_toArray, List.set_cons_zero, List.set_cons_succ]
        refine wpAnyH_take (i := 20) (oi := { dst := some 30, op := Op.pick (Operand.tmp 19) (Operand.tmp 29) (Operand.const (Value.bool false)), type := 4, pos := "l03_site.go:17", after := #[{ on := 9, ground := Ground.data }, { on := 19, ground := Ground.data }, { on := 6, ground := Ground.guard }], guard := some (6, false) }) (v := undef) rfl (by kernel_rfl) (by kernel_rfl) (by kernel_rfl) (fun _ _ _ h => h) (Or.inr ⟨by rfl, rfl⟩) (by assumption) ?_
        try simp only [Act.put, List.setIfInBounds_toArray, List.set_cons_zero, List.set_cons_succ]
        refine wpAnyH_take (i := 21) (oi := { dst := some 31, op := Op.pick (Operand.tmp 16) (Operand.const (Value.bool true)) (Operand.tmp 30), type := 4, pos := "l03_site.go:17", after := #[{ on := 6, ground := Ground.data }, { on := 20, ground := Ground.data }], guard := none }) (v := ?va21) rfl (by kernel_rfl) (by kernel_rfl) (by kernel_rfl) (fun _ _ _ h => h) (Or.inl ⟨by rfl, ?hya21⟩) (by assumption) ?resta21
        case hya21 =>
          intro w hSw
          (try dsimp only at hSw)
          go_simp
          try with_reducible rfl
        try simp only [Act.put, List.setIfInBounds_toArray, List.set_cons_zero, List.set_cons_succ]
        refine wpAnyH_done (by kernel_rfl) ?_ _
        go_wp2
        go_ret
        exact ⟨ret_bool HQ.out.symm, (HB.out.trans (Below.drew (Below.refl _ _))).trans (hb2.mono HB.out.size)⟩
      | true =>
        rw [hr] at KR0
        have KR : Hid (∀ W, Calls Tryd.prog 44 #[.string (f k)] W fun e w' => e = .returned (.bool true) ∧ Below W.heap.size W w') := KR0
        clear KR0
        cases k with
        | zero =>
          have HK : Hid (okR f 0 = true) := hr
          clear hr hc
          generalize f 0 = t at *
          have q0 : decide ((0 : Int) < ((0 : Nat) : Int)) = false := by decide
          go_wp2_with fail
          refine wp_region_held_drew (S := (fun w' => g < w'.heap.size ∧ w'.cell? ⟨g, 0, none⟩ = some (.string t))) (by kernel_rfl) ?_ (fun hH0 => ?_)
          · (try dsimp only)
            go_keep
          refine wpAnyH_take (i := 0) (oi := { dst := some 10, op := Op.move (Operand.tmp 0), type := 23, pos := "l03_site.go:17", after := #[], guard := none }) (v := ?vb0) rfl (by kernel_rfl) (by kernel_rfl) (by kernel_rfl) (fun _ _ _ h => h) (Or.inl ⟨by rfl, ?hyb0⟩) (by assumption) ?restb0
          case hyb0 =>
            intro w hSw
            (try dsimp only at hSw)
            go_simp
            try with_reducible rfl
          try simp only [Act.put, List.setIfInBounds_toArray, List.set_cons_zero, List.set_cons_succ]
          refine wpAnyH_take (i := 1) (oi := { dst := some 11, op := Op.move (Operand.tmp 3), type := 3, pos := "l03_site.go:17", after := #[], guard := none }) (v := ?vb1) rfl (by kernel_rfl) (by kernel_rfl) (by kernel_rfl) (fun _ _ _ h => h) (Or.inl ⟨by rfl, ?hyb1⟩) (by assumption) ?restb1
          case hyb1 =>
            intro w hSw
            (try dsimp only at hSw)
            go_simp
            try with_reducible rfl
          try simp only [Act.put, List.setIfInBounds_toArray, List.set_cons_zero, List.set_cons_succ]
          refine wpAnyH_take (i := 2) (oi := { dst := some 12, op := Op.indexAddr 23 (Operand.tmp 10) (Operand.tmp 11), type := 0, pos := "l03_site.go:17", after := #[{ on := 0, ground := Ground.data }, { on := 1, ground := Ground.data }], guard := none }) (v := ?vb2) rfl (by kernel_rfl) (by kernel_rfl) (by kernel_rfl) (fun _ _ _ h => h) (Or.inl ⟨by rfl, ?hyb2⟩) (by assumption) ?restb2
          case hyb2 =>
            intro w hSw
            (try dsimp only at hSw)
            go_simp
            try with_reducible rfl
          try simp only [Act.put, List.setIfInBounds_toArray, List.set_cons_zero, List.set_cons_succ]
          refine wpAnyH_take (i := 3) (oi := { dst := some 13, op := Op.load 9 (Operand.tmp 12), type := 9, pos := "l03_site.go:17", after := #[{ on := 2, ground := Ground.data }], guard := none }) (v := ?vb3) rfl (by kernel_rfl) (by kernel_rfl) (by kernel_rfl) (fun _ _ _ h => h) (Or.inl ⟨by rfl, ?hyb3⟩) (by assumption) ?restb3
          case hyb3 =>
            intro w hSw
            (try dsimp only at hSw)
            go_simp
            try with_reducible rfl
          try simp only [Act.put, List.setIfInBounds_toArray, List.set_cons_zero, List.set_cons_succ]
          refine wpAnyH_ready (rs := [4]) (by kernel_rfl) (by simp) ?_
          refine AllReadyH.cons (o := { dst := some 14, op := Op.call { callee := Callee.value (Operand.func 44), args := #[Operand.tmp 13], argTypes := #[9] }, type := 4, pos := "l03_site.go:17", after := #[{ on := 3, ground := Ground.data }], guard := none }) rfl (fun K hK => ?_) AllReadyH.nil
          go_simp
          (go_at_call 44; refine (KR.out _).mono ?_; rintro e w2 ⟨rfl, hb2⟩; have z2 : g < w2.heap.size := Nat.lt_of_lt_of_le hz hb2.size; have c2 : w2.cell? ⟨g, 0, none⟩ = some (.string t) := ((bcell hb2).1 _ _ hz).trans hck)
          try (go_wp2_with fail)
          refine hK.out _ _ ?_ (fun hH1 => ?_)
          · (try dsimp only)
            go_keep
          clear hK K hH0
          try simp only [Act.put, List.setIfInBounds_toArray, List.set_cons_zero, List.set_cons_succ]
          refine wpAnyH_take (i := 5) (oi := { dst := some 15, op := Op.unOp UnOp.not 4 (Operand.tmp 14), type := 4, pos := "l03_site.go:17", after := #[{ on := 4, ground := Ground.data }], guard := none }) (v := ?vb5) rfl (by kernel_rfl) (by kernel_rfl) (by kernel_rfl) (fun _ _ _ h => h) (Or.inl ⟨by rfl, ?hyb5⟩) (by assumption) ?restb5
          case hyb5 =>
            intro w hSw
            (try dsimp only at hSw)
            go_simp
            try with_reducible rfl
          try simp only [Act.put, List.setIfInBounds_toArray, List.set_cons_zero, List.set_cons_succ]
          refine wpAnyH_take (i := 6) (oi := { dst := some 16, op := Op.move (Operand.tmp 15), type := 4, pos := "l03_site.go:17", after := #[{ on := 5, ground := Ground.data }, { on := 4, ground := Ground.chain }], guard := none }) (v := ?vb6) rfl (by kernel_rfl) (by kernel_rfl) (by kernel_rfl) (fun _ _ _ h => h) (Or.inl ⟨by rfl, ?hyb6⟩) (by assumption) ?restb6
          case hyb6 =>
            intro w hSw
            (try dsimp only at hSw)
            go_simp
            try with_reducible rfl
          try simp only [Act.put, List.setIfInBounds_toArray, List.set_cons_zero, List.set_cons_succ]
          refine wpAnyH_take (i := 7) (oi := { dst := some 17, op := Op.move (Operand.tmp 3), type := 3, pos := "l03_site.go:17", after := #[{ on := 6, ground := Ground.guard }], guard := some (6, false) }) (v := ?vb7) rfl (by kernel_rfl) (by kernel_rfl) (by kernel_rfl) (fun _ _ _ h => h) (Or.inl ⟨by rfl, ?hyb7⟩) (by assumption) ?restb7
          case hyb7 =>
            intro w hSw
            (try dsimp only at hSw)
            go_simp
            try with_reducible rfl
          try simp only [Act.put, List.setIfInBounds_toArray, List.set_cons_zero, List.set_cons_succ]
          refine wpAnyH_take (i := 8) (oi := { dst := some 18, op := Op.binOp BinOp.gtr 3 (Operand.tmp 17) (Operand.const (Value.int IntKind.i64 0)) 3, type := 4, pos := "l03_site.go:17", after := #[{ on := 7, ground := Ground.data }, { on := 6, ground := Ground.guard }], guard := some (6, false) }) (v := ?vb8) rfl (by kernel_rfl) (by kernel_rfl) (by kernel_rfl) (fun _ _ _ h => h) (Or.inl ⟨by rfl, ?hyb8⟩) (by assumption) ?restb8
          case hyb8 =>
            intro w hSw
            (try dsimp only at hSw)
            go_simp
            try with_reducible rfl
          try simp only [Act.put, List.setIfInBounds_toArray, List.set_cons_zero, List.set_cons_succ]
          refine wpAnyH_take (i := 9) (oi := { dst := some 19, op := Op.move (Operand.tmp 18), type := 4, pos := "l03_site.go:17", after := #[{ on := 8, ground := Ground.data }, { on := 6, ground := Ground.chain }, { on := 6, ground := Ground.guard }], guard := some (6, false) }) (v := ?vb9) rfl (by kernel_rfl) (by kernel_rfl) (by kernel_rfl) (fun _ _ _ h => h) (Or.inl ⟨by rfl, ?hyb9⟩) (by assumption) ?restb9
          case hyb9 =>
            intro w hSw
            (try dsimp only at hSw)
            go_simp
            try with_reducible rfl
          try simp only [Act.put, List.setIfInBounds_toArray, List.set_cons_zero, List.set_cons_succ]
          refine wpAnyH_take (i := 10) (oi := { dst := some 20, op := Op.move (Operand.tmp 0), type := 23, pos := "l03_site.go:17", after := #[{ on := 9, ground := Ground.guard }], guard := some (9, true) }) (v := undef) rfl (by kernel_rfl) (by kernel_rfl) (by kernel_rfl) (fun _ _ _ h => h) (Or.inr ⟨by rfl, rfl⟩) (by assumption) ?_
          try simp only [Act.put, List.setIfInBounds_toArray, List.set_cons_zero, List.set_cons_succ]
          refine wpAnyH_take (i := 11) (oi := { dst := some 21, op := Op.move (Operand.tmp 3), type := 3, pos := "l03_site.go:17", after := #[{ on := 9, ground := Ground.guard }], guard := some (9, true) }) (v := undef) rfl (by kernel_rfl) (by kernel_rfl) (by kernel_rfl) (fun _ _ _ h => h) (Or.inr ⟨by rfl, rfl⟩) (by assumption) ?_
          try simp only [Act.put, List.setIfInBounds_toArray, List.set_cons_zero, List.set_cons_succ]
          refine wpAnyH_take (i := 12) (oi := { dst := some 22, op := Op.binOp BinOp.sub 3 (Operand.tmp 21) (Operand.const (Value.int IntKind.i64 1)) 3, type := 3, pos := "l03_site.go:17", after := #[{ on := 11, ground := Ground.data }, { on := 9, ground := Ground.guard }], guard := some (9, true) }) (v := undef) rfl (by kernel_rfl) (by kernel_rfl) (by kernel_rfl) (fun _ _ _ h => h) (Or.inr ⟨by rfl, rfl⟩) (by assumption) ?_
          try simp only [Act.put, List.setIfInBounds_toArray, List.set_cons_zero, List.set_cons_succ]
          refine wpAnyH_take (i := 13) (oi := { dst := some 23, op := Op.indexAddr 23 (Operand.tmp 20) (Operand.tmp 22), type := 0, pos := "l03_site.go:17", after := #[{ on := 10, ground := Ground.data }, { on := 12, ground := Ground.data }, { on := 9, ground := Ground.guard }], guard := some (9, true) }) (v := undef) rfl (by kernel_rfl) (by kernel_rfl) (by kernel_rfl) (fun _ _ _ h => h) (Or.inr ⟨by rfl, rfl⟩) (by assumption) ?_
          try simp only [Act.put, List.setIfInBounds_toArray, List.set_cons_zero, List.set_cons_succ]
          refine wpAnyH_take (i := 14) (oi := { dst := some 24, op := Op.load 9 (Operand.tmp 23), type := 9, pos := "l03_site.go:17", after := #[{ on := 13, ground := Ground.data }, { on := 9, ground := Ground.guard }], guard := some (9, true) }) (v := undef) rfl (by kernel_rfl) (by kernel_rfl) (by kernel_rfl) (fun _ _ _ h => h) (Or.inr ⟨by rfl, rfl⟩) (by assumption) ?_
          try simp only [Act.put, List.setIfInBounds_toArray, List.set_cons_zero, List.set_cons_succ]
          refine wpAnyH_take (i := 15) (oi := { dst := some 25, op := Op.move (Operand.tmp 0), type := 23, pos := "l03_site.go:17", after := #[{ on := 9, ground := Ground.guard }], guard := some (9, true) }) (v := undef) rfl (by kernel_rfl) (by kernel_rfl) (by kernel_rfl) (fun _ _ _ h => h) (Or.inr ⟨by rfl, rfl⟩) (by assumption) ?_
          try simp only [Act.put, List.setIfInBounds_toArray, List.set_cons_zero, List.set_cons_succ]
          refine wpAnyH_take (i := 16) (oi := { dst := some 26, op := Op.move (Operand.tmp 3), type := 3, pos := "l03_site.go:17", after := #[{ on := 9, ground := Ground.guard }], guard := some (9, true) }) (v := undef) rfl (by kernel_rfl) (by kernel_rfl) (by kernel_rfl) (fun _ _ _ h => h) (Or.inr ⟨by rfl, rfl⟩) (by assumption) ?_
          try simp only [Act.put, List.setIfInBounds_toArray, List.set_cons_zero, List.set_cons_succ]
          refine wpAnyH_take (i := 17) (oi := { dst := some 27, op := Op.indexAddr 23 (Operand.tmp 25) (Operand.tmp 26), type := 0, pos := "l03_site.go:17", after := #[{ on := 15, ground := Ground.data }, { on := 16, ground := Ground.data }, { on := 9, ground := Ground.guard }], guard := some (9, true) }) (v := undef) rfl (by kernel_rfl) (by kernel_rfl) (by kernel_rfl) (fun _ _ _ h => h) (Or.inr ⟨by rfl, rfl⟩) (by assumption) ?_
          try simp only [Act.put, List.setIfInBounds_toArray, List.set_cons_zero, List.set_cons_succ]
          refine wpAnyH_take (i := 18) (oi := { dst := some 28, op := Op.load 9 (Operand.tmp 27), type := 9, pos := "l03_site.go:17", after := #[{ on := 17, ground := Ground.data }, { on := 9, ground := Ground.guard }], guard := some (9, true) }) (v := undef) rfl (by kernel_rfl) (by kernel_rfl) (by kernel_rfl) (fun _ _ _ h => h) (Or.inr ⟨by rfl, rfl⟩) (by assumption) ?_
          try simp only [Act.put, List.setIfInBounds_toArray, List.set_cons_zero, List.set_cons_succ]
          refine wpAnyH_take (i := 19) (oi := { dst := some 29, op := Op.binOp BinOp.geq 9 (Operand.tmp 24) (Operand.tmp 28) 9, type := 4, pos := "l03_site.go:17", after := #[{ on := 14, ground := Ground.data }, { on := 18, ground := Ground.data }, { on := 9, ground := Ground.guard }], guard := some (9, true) }) (v := undef) rfl (by kernel_rfl) (by kernel_rfl) (by kernel_rfl) (fun _ _ _ h => h) (Or.inr ⟨by rfl, rfl⟩) (by assumption) ?_
          try simp only [Act.put, List.setIfInBounds_toArray, List.set_cons_zero, List.set_cons_succ]
          refine wpAnyH_take (i := 20) (oi := { dst := some 30, op := Op.pick (Operand.tmp 19) (Operand.tmp 29) (Operand.const (Value.bool false)), type := 4, pos := "l03_site.go:17", after := #[{ on := 9, ground := Ground.data }, { on := 19, ground := Ground.data }, { on := 6, ground := Ground.guard }], guard := some (6, false) }) (v := ?vb20) rfl (by kernel_rfl) (by kernel_rfl) (by kernel_rfl) (fun _ _ _ h => h) (Or.inl ⟨by rfl, ?hyb20⟩) (by assumption) ?restb20
          case hyb20 =>
            intro w hSw
            (try dsimp only at hSw)
            go_simp
            try with_reducible rfl
          try simp only [Act.put, List.setIfInBounds_toArray, List.set_cons_zero, List.set_cons_succ]
          refine wpAnyH_take (i := 21) (oi := { dst := some 31, op := Op.pick (Operand.tmp 16) (Operand.const (Value.bool true)) (Operand.tmp 30), type := 4, pos := "l03_site.go:17", after := #[{ on := 6, ground := Ground.data }, { on := 20, ground := Ground.data }], guard := none }) (v := ?vb21) rfl (by kernel_rfl) (by kernel_rfl) (by kernel_rfl) (fun _ _ _ h => h) (Or.inl ⟨by rfl, ?hyb21⟩) (by assumption) ?restb21
          case hyb21 =>
            intro w hSw
            (try dsimp only at hSw)
            go_simp
            try with_reducible rfl
          try simp only [Act.put, List.setIfInBounds_toArray, List.set_cons_zero, List.set_cons_succ]
          refine wpAnyH_done (by kernel_rfl) ?_ _
          go_wp2
          go_roundw
          case rel => exact ⟨1, by omega, by go_num, (HB.out.trans (Below.drew (Below.refl _ _))).trans (hb2.mono HB.out.size), okR_succ (k := 0) (fun i hi => absurd hi (by omega)) HK.out⟩
          case measure => simp [intOf]; omega
        | succ m =>
          have hcm : wr.cell? ⟨g, m, none⟩ = some (.string (f m)) := by rw [(bcell HB.out).1 _ _ hgw]; exact (hc m (by omega)).1
          have HE : Hid (okR f (m + 1) = Op.bytesLess (f m).toList (f (m + 1)).toList) := by show _ = _; rw [okR, hr]; rfl
          clear hr hc
          have q0 : decide ((0 : Int) < ((m : Int) + 1)) = true := by rw [decide_eq_true_iff]; omega
          have hw1 : IntKind.i64.wrap ((m : Int) + 1 - 1) = m := by
            rw [IntKind.wrap_i64]; omega
          have hw2 : IntKind.i64.wrap (m : Int) = m := by rw [IntKind.wrap_i64]; omega
          have p0 : (0 : Int) ≤ (m : Int) + 1 := by omega
          have p1 : (m : Int) + 1 < n := by omega
          have m0 : (0 : Int) ≤ m := by omega
          have m1 : (m : Int) < n := by omega
          cases hless : Op.bytesLess (f m).toList (f (m + 1)).toList with
          | true =>
            have HK : Hid (okR f (m + 1) = true) := by show _ = _; rw [HE.out, hless]
            clear HE
            generalize f (m + 1) = t at *
            generalize f m = s at *
            go_wp2_with fail
            refine wp_region_held_drew (S := (fun w' => g < w'.heap.size ∧ w'.cell? ⟨g, m + 1, none⟩ = some (.string t) ∧ w'.cell? ⟨g, m, none⟩ = some (.string s))) (by kernel_rfl) ?_ (fun hH0 => ?_)
            · (try dsimp only)
              go_keep
            refine wpAnyH_take (i := 0) (oi := { dst := some 10, op := Op.move (Operand.tmp 0), type := 23, pos := "l03_site.go:17", after := #[], guard := none }) (v := ?vc0) rfl (by kernel_rfl) (by kernel_rfl) (by kernel_rfl) (fun _ _ _ h => h) (Or.inl ⟨by rfl, ?hyc0⟩) (by assumption) ?restc0
            case hyc0 =>
              intro w hSw
              (try dsimp only at hSw)
              go_simp
              try with_reducible rfl
            try simp only [Act.put, List.setIfInBounds_toArray, List.set_cons_zero, List.set_cons_succ]
            refine wpAnyH_take (i := 1) (oi := { dst := some 11, op := Op.move (Operand.tmp 3), type := 3, pos := "l03_site.go:17", after := #[], guard := none }) (v := ?vc1) rfl (by kernel_rfl) (by kernel_rfl) (by kernel_rfl) (fun _ _ _ h => h) (Or.inl ⟨by rfl, ?hyc1⟩) (by assumption) ?restc1
            case hyc1 =>
              intro w hSw
              (try dsimp only at hSw)
              go_simp
              try with_reducible rfl
            try simp only [Act.put, List.setIfInBounds_toArray, List.set_cons_zero, List.set_cons_succ]
            refine wpAnyH_take (i := 2) (oi := { dst := some 12, op := Op.indexAddr 23 (Operand.tmp 10) (Operand.tmp 11), type := 0, pos := "l03_site.go:17", after := #[{ on := 0, ground := Ground.data }, { on := 1, ground := Ground.data }], guard := none }) (v := ?vc2) rfl (by kernel_rfl) (by kernel_rfl) (by kernel_rfl) (fun _ _ _ h => h) (Or.inl ⟨by rfl, ?hyc2⟩) (by assumption) ?restc2
            case hyc2 =>
              intro w hSw
              (try dsimp only at hSw)
              go_simp
              try with_reducible rfl
            try simp only [Act.put, List.setIfInBounds_toArray, List.set_cons_zero, List.set_cons_succ]
            refine wpAnyH_take (i := 3) (oi := { dst := some 13, op := Op.load 9 (Operand.tmp 12), type := 9, pos := "l03_site.go:17", after := #[{ on := 2, ground := Ground.data }], guard := none }) (v := ?vc3) rfl (by kernel_rfl) (by kernel_rfl) (by kernel_rfl) (fun _ _ _ h => h) (Or.inl ⟨by rfl, ?hyc3⟩) (by assumption) ?restc3
            case hyc3 =>
              intro w hSw
              (try dsimp only at hSw)
              go_simp
              try with_reducible rfl
            try simp only [Act.put, List.setIfInBounds_toArray, List.set_cons_zero, List.set_cons_succ]
            refine wpAnyH_ready (rs := [4]) (by kernel_rfl) (by simp) ?_
            refine AllReadyH.cons (o := { dst := some 14, op := Op.call { callee := Callee.value (Operand.func 44), args := #[Operand.tmp 13], argTypes := #[9] }, type := 4, pos := "l03_site.go:17", after := #[{ on := 3, ground := Ground.data }], guard := none }) rfl (fun K hK => ?_) AllReadyH.nil
            go_simp
            (go_at_call 44; refine (KR.out _).mono ?_; rintro e w2 ⟨rfl, hb2⟩; have z2 : g < w2.heap.size := Nat.lt_of_lt_of_le hz hb2.size; have c2 : w2.cell? ⟨g, m + 1, none⟩ = some (.string t) := ((bcell hb2).1 _ _ hz).trans hck; have d2 : w2.cell? ⟨g, m, none⟩ = some (.string s) := ((bcell hb2).1 _ _ hz).trans hcm)
            try (go_wp2_with fail)
            refine hK.out _ _ ?_ (fun hH1 => ?_)
            · (try dsimp only)
              go_keep
            clear hK K hH0
            try simp only [Act.put, List.setIfInBounds_toArray, List.set_cons_zero, List.set_cons_succ]
            refine wpAnyH_take (i := 5) (oi := { dst := some 15, op := Op.unOp UnOp.not 4 (Operand.tmp 14), type := 4, pos := "l03_site.go:17", after := #[{ on := 4, ground := Ground.data }], guard := none }) (v := ?vc5) rfl (by kernel_rfl) (by kernel_rfl) (by kernel_rfl) (fun _ _ _ h => h) (Or.inl ⟨by rfl, ?hyc5⟩) (by assumption) ?restc5
            case hyc5 =>
              intro w hSw
              (try dsimp only at hSw)
              go_simp
              try with_reducible rfl
            try simp only [Act.put, List.setIfInBounds_toArray, List.set_cons_zero, List.set_cons_succ]
            refine wpAnyH_take (i := 6) (oi := { dst := some 16, op := Op.move (Operand.tmp 15), type := 4, pos := "l03_site.go:17", after := #[{ on := 5, ground := Ground.data }, { on := 4, ground := Ground.chain }], guard := none }) (v := ?vc6) rfl (by kernel_rfl) (by kernel_rfl) (by kernel_rfl) (fun _ _ _ h => h) (Or.inl ⟨by rfl, ?hyc6⟩) (by assumption) ?restc6
            case hyc6 =>
              intro w hSw
              (try dsimp only at hSw)
              go_simp
              try with_reducible rfl
            try simp only [Act.put, List.setIfInBounds_toArray, List.set_cons_zero, List.set_cons_succ]
            refine wpAnyH_take (i := 7) (oi := { dst := some 17, op := Op.move (Operand.tmp 3), type := 3, pos := "l03_site.go:17", after := #[{ on := 6, ground := Ground.guard }], guard := some (6, false) }) (v := ?vc7) rfl (by kernel_rfl) (by kernel_rfl) (by kernel_rfl) (fun _ _ _ h => h) (Or.inl ⟨by rfl, ?hyc7⟩) (by assumption) ?restc7
            case hyc7 =>
              intro w hSw
              (try dsimp only at hSw)
              go_simp
              try with_reducible rfl
            try simp only [Act.put, List.setIfInBounds_toArray, List.set_cons_zero, List.set_cons_succ]
            refine wpAnyH_take (i := 8) (oi := { dst := some 18, op := Op.binOp BinOp.gtr 3 (Operand.tmp 17) (Operand.const (Value.int IntKind.i64 0)) 3, type := 4, pos := "l03_site.go:17", after := #[{ on := 7, ground := Ground.data }, { on := 6, ground := Ground.guard }], guard := some (6, false) }) (v := ?vc8) rfl (by kernel_rfl) (by kernel_rfl) (by kernel_rfl) (fun _ _ _ h => h) (Or.inl ⟨by rfl, ?hyc8⟩) (by assumption) ?restc8
            case hyc8 =>
              intro w hSw
              (try dsimp only at hSw)
              go_simp
              try with_reducible rfl
            try simp only [Act.put, List.setIfInBounds_toArray, List.set_cons_zero, List.set_cons_succ]
            refine wpAnyH_take (i := 9) (oi := { dst := some 19, op := Op.move (Operand.tmp 18), type := 4, pos := "l03_site.go:17", after := #[{ on := 8, ground := Ground.data }, { on := 6, ground := Ground.chain }, { on := 6, ground := Ground.guard }], guard := some (6, false) }) (v := ?vc9) rfl (by kernel_rfl) (by kernel_rfl) (by kernel_rfl) (fun _ _ _ h => h) (Or.inl ⟨by rfl, ?hyc9⟩) (by assumption) ?restc9
            case hyc9 =>
              intro w hSw
              (try dsimp only at hSw)
              go_simp
              try with_reducible rfl
            try simp only [Act.put, List.setIfInBounds_toArray, List.set_cons_zero, List.set_cons_succ]
            refine wpAnyH_take (i := 10) (oi := { dst := some 20, op := Op.move (Operand.tmp 0), type := 23, pos := "l03_site.go:17", after := #[{ on := 9, ground := Ground.guard }], guard := some (9, true) }) (v := ?vc10) rfl (by kernel_rfl) (by kernel_rfl) (by kernel_rfl) (fun _ _ _ h => h) (Or.inl ⟨by rfl, ?hyc10⟩) (by assumption) ?restc10
            case hyc10 =>
              intro w hSw
              (try dsimp only at hSw)
              go_simp
              try with_reducible rfl
            try simp only [Act.put, List.setIfInBounds_toArray, List.set_cons_zero, List.set_cons_succ]
            refine wpAnyH_take (i := 11) (oi := { dst := some 21, op := Op.move (Operand.tmp 3), type := 3, pos := "l03_site.go:17", after := #[{ on := 9, ground := Ground.guard }], guard := some (9, true) }) (v := ?vc11) rfl (by kernel_rfl) (by kernel_rfl) (by kernel_rfl) (fun _ _ _ h => h) (Or.inl ⟨by rfl, ?hyc11⟩) (by assumption) ?restc11
            case hyc11 =>
              intro w hSw
              (try dsimp only at hSw)
              go_simp
              try with_reducible rfl
            try simp only [Act.put, List.setIfInBounds_toArray, List.set_cons_zero, List.set_cons_succ]
            refine wpAnyH_take (i := 12) (oi := { dst := some 22, op := Op.binOp BinOp.sub 3 (Operand.tmp 21) (Operand.const (Value.int IntKind.i64 1)) 3, type := 3, pos := "l03_site.go:17", after := #[{ on := 11, ground := Ground.data }, { on := 9, ground := Ground.guard }], guard := some (9, true) }) (v := ?vc12) rfl (by kernel_rfl) (by kernel_rfl) (by kernel_rfl) (fun _ _ _ h => h) (Or.inl ⟨by rfl, ?hyc12⟩) (by assumption) ?restc12
            case hyc12 =>
              intro w hSw
              (try dsimp only at hSw)
              go_simp
              try with_reducible rfl
            try simp only [Act.put, List.setIfInBounds_toArray, List.set_cons_zero, List.set_cons_succ]
            refine wpAnyH_take (i := 13) (oi := { dst := some 23, op := Op.indexAddr 23 (Operand.tmp 20) (Operand.tmp 22), type := 0, pos := "l03_site.go:17", after := #[{ on := 10, ground := Ground.data }, { on := 12, ground := Ground.data }, { on := 9, ground := Ground.guard }], guard := some (9, true) }) (v := ?vc13) rfl (by kernel_rfl) (by kernel_rfl) (by kernel_rfl) (fun _ _ _ h => h) (Or.inl ⟨by rfl, ?hyc13⟩) (by assumption) ?restc13
            case hyc13 =>
              intro w hSw
              (try dsimp only at hSw)
              go_simp
              try with_reducible rfl
            try simp only [Act.put, List.setIfInBounds_toArray, List.set_cons_zero, List.set_cons_succ]
            refine wpAnyH_take (i := 14) (oi := { dst := some 24, op := Op.load 9 (Operand.tmp 23), type := 9, pos := "l03_site.go:17", after := #[{ on := 13, ground := Ground.data }, { on := 9, ground := Ground.guard }], guard := some (9, true) }) (v := ?vc14) rfl (by kernel_rfl) (by kernel_rfl) (by kernel_rfl) (fun _ _ _ h => h) (Or.inl ⟨by rfl, ?hyc14⟩) (by assumption) ?restc14
            case hyc14 =>
              intro w hSw
              (try dsimp only at hSw)
              go_simp
              try with_reducible rfl
            try simp only [Act.put, List.setIfInBounds_toArray, List.set_cons_zero, List.set_cons_succ]
            refine wpAnyH_take (i := 15) (oi := { dst := some 25, op := Op.move (Operand.tmp 0), type := 23, pos := "l03_site.go:17", after := #[{ on := 9, ground := Ground.guard }], guard := some (9, true) }) (v := ?vc15) rfl (by kernel_rfl) (by kernel_rfl) (by kernel_rfl) (fun _ _ _ h => h) (Or.inl ⟨by rfl, ?hyc15⟩) (by assumption) ?restc15
            case hyc15 =>
              intro w hSw
              (try dsimp only at hSw)
              go_simp
              try with_reducible rfl
            try simp only [Act.put, List.setIfInBounds_toArray, List.set_cons_zero, List.set_cons_succ]
            refine wpAnyH_take (i := 16) (oi := { dst := some 26, op := Op.move (Operand.tmp 3), type := 3, pos := "l03_site.go:17", after := #[{ on := 9, ground := Ground.guard }], guard := some (9, true) }) (v := ?vc16) rfl (by kernel_rfl) (by kernel_rfl) (by kernel_rfl) (fun _ _ _ h => h) (Or.inl ⟨by rfl, ?hyc16⟩) (by assumption) ?restc16
            case hyc16 =>
              intro w hSw
              (try dsimp only at hSw)
              go_simp
              try with_reducible rfl
            try simp only [Act.put, List.setIfInBounds_toArray, List.set_cons_zero, List.set_cons_succ]
            refine wpAnyH_take (i := 17) (oi := { dst := some 27, op := Op.indexAddr 23 (Operand.tmp 25) (Operand.tmp 26), type := 0, pos := "l03_site.go:17", after := #[{ on := 15, ground := Ground.data }, { on := 16, ground := Ground.data }, { on := 9, ground := Ground.guard }], guard := some (9, true) }) (v := ?vc17) rfl (by kernel_rfl) (by kernel_rfl) (by kernel_rfl) (fun _ _ _ h => h) (Or.inl ⟨by rfl, ?hyc17⟩) (by assumption) ?restc17
            case hyc17 =>
              intro w hSw
              (try dsimp only at hSw)
              go_simp
              try with_reducible rfl
            try simp only [Act.put, List.setIfInBounds_toArray, List.set_cons_zero, List.set_cons_succ]
            refine wpAnyH_take (i := 18) (oi := { dst := some 28, op := Op.load 9 (Operand.tmp 27), type := 9, pos := "l03_site.go:17", after := #[{ on := 17, ground := Ground.data }, { on := 9, ground := Ground.guard }], guard := some (9, true) }) (v := ?vc18) rfl (by kernel_rfl) (by kernel_rfl) (by kernel_rfl) (fun _ _ _ h => h) (Or.inl ⟨by rfl, ?hyc18⟩) (by assumption) ?restc18
            case hyc18 =>
              intro w hSw
              (try dsimp only at hSw)
              go_simp
              try with_reducible rfl
            try simp only [Act.put, List.setIfInBounds_toArray, List.set_cons_zero, List.set_cons_succ]
            refine wpAnyH_take (i := 19) (oi := { dst := some 29, op := Op.binOp BinOp.geq 9 (Operand.tmp 24) (Operand.tmp 28) 9, type := 4, pos := "l03_site.go:17", after := #[{ on := 14, ground := Ground.data }, { on := 18, ground := Ground.data }, { on := 9, ground := Ground.guard }], guard := some (9, true) }) (v := ?vc19) rfl (by kernel_rfl) (by kernel_rfl) (by kernel_rfl) (fun _ _ _ h => h) (Or.inl ⟨by rfl, ?hyc19⟩) (by assumption) ?restc19
            case hyc19 =>
              intro w hSw
              (try dsimp only at hSw)
              go_simp
              try with_reducible rfl
            try simp only [Act.put, List.setIfInBounds_toArray, List.set_cons_zero, List.set_cons_succ]
            refine wpAnyH_take (i := 20) (oi := { dst := some 30, op := Op.pick (Operand.tmp 19) (Operand.tmp 29) (Operand.const (Value.bool false)), type := 4, pos := "l03_site.go:17", after := #[{ on := 9, ground := Ground.data }, { on := 19, ground := Ground.data }, { on := 6, ground := Ground.guard }], guard := some (6, false) }) (v := ?vc20) rfl (by kernel_rfl) (by kernel_rfl) (by kernel_rfl) (fun _ _ _ h => h) (Or.inl ⟨by rfl, ?hyc20⟩) (by assumption) ?restc20
            case hyc20 =>
              intro w hSw
              (try dsimp only at hSw)
              go_simp
              try with_reducible rfl
            try simp only [Act.put, List.setIfInBounds_toArray, List.set_cons_zero, List.set_cons_succ]
            refine wpAnyH_take (i := 21) (oi := { dst := some 31, op := Op.pick (Operand.tmp 16) (Operand.const (Value.bool true)) (Operand.tmp 30), type := 4, pos := "l03_site.go:17", after := #[{ on := 6, ground := Ground.data }, { on := 20, ground := Ground.data }], guard := none }) (v := ?vc21) rfl (by kernel_rfl) (by kernel_rfl) (by kernel_rfl) (fun _ _ _ h => h) (Or.inl ⟨by rfl, ?hyc21⟩) (by assumption) ?restc21
            case hyc21 =>
              intro w hSw
              (try dsimp only at hSw)
              go_simp
              try with_reducible rfl
            try simp only [Act.put, List.setIfInBounds_toArray, List.set_cons_zero, List.set_cons_succ]
            refine wpAnyH_done (by kernel_rfl) ?_ _
            go_wp2
            go_roundw
            case rel => exact ⟨m + 2, by omega, by go_num, (HB.out.trans (Below.drew (Below.refl _ _))).trans (hb2.mono HB.out.size), okR_succ HR.out HK.out⟩
            case measure => simp [intOf]; omega
          | false =>
            have HQ : Hid (R = false) := HA.out.1 (m + 1) hlt (by rw [HE.out, hless])
            clear HE
            generalize f (m + 1) = t at *
            generalize f m = s at *
            go_wp2_with fail
            refine wp_region_held_drew (S := (fun w' => g < w'.heap.size ∧ w'.cell? ⟨g, m + 1, none⟩ = some (.string t) ∧ w'.cell? ⟨g, m, none⟩ = some (.string s))) (by kernel_rfl) ?_ (fun hH0 => ?_)
            · (try dsimp only)
              go_keep
            refine wpAnyH_take (i := 0) (oi := { dst := some 10, op := Op.move (Operand.tmp 0), type := 23, pos := "l03_site.go:17", after := #[], guard := none }) (v := ?vd0) rfl (by kernel_rfl) (by kernel_rfl) (by kernel_rfl) (fun _ _ _ h => h) (Or.inl ⟨by rfl, ?hyd0⟩) (by assumption) ?restd0
            case hyd0 =>
              intro w hSw
              (try dsimp only at hSw)
              go_simp
              try with_reducible rfl
            try simp only [Act.put, List.setIfInBounds_toArray, List.set_cons_zero, List.set_cons_succ]
            refine wpAnyH_take (i := 1) (oi := { dst := some 11, op := Op.move (Operand.tmp 3), type := 3, pos := "l03_site.go:17", after := #[], guard := none }) (v := ?vd1) rfl (by kernel_rfl) (by kernel_rfl) (by kernel_rfl) (fun _ _ _ h => h) (Or.inl ⟨by rfl, ?hyd1⟩) (by assumption) ?restd1
            case hyd1 =>
              intro w hSw
              (try dsimp only at hSw)
              go_simp
              try with_reducible rfl
            try simp only [Act.put, List.setIfInBounds_toArray, List.set_cons_zero, List.set_cons_succ]
            refine wpAnyH_take (i := 2) (oi := { dst := some 12, op := Op.indexAddr 23 (Operand.tmp 10) (Operand.tmp 11), type := 0, pos := "l03_site.go:17", after := #[{ on := 0, ground := Ground.data }, { on := 1, ground := Ground.data }], guard := none }) (v := ?vd2) rfl (by kernel_rfl) (by kernel_rfl) (by kernel_rfl) (fun _ _ _ h => h) (Or.inl ⟨by rfl, ?hyd2⟩) (by assumption) ?restd2
            case hyd2 =>
              intro w hSw
              (try dsimp only at hSw)
              go_simp
              try with_reducible rfl
            try simp only [Act.put, List.setIfInBounds_toArray, List.set_cons_zero, List.set_cons_succ]
            refine wpAnyH_take (i := 3) (oi := { dst := some 13, op := Op.load 9 (Operand.tmp 12), type := 9, pos := "l03_site.go:17", after := #[{ on := 2, ground := Ground.data }], guard := none }) (v := ?vd3) rfl (by kernel_rfl) (by kernel_rfl) (by kernel_rfl) (fun _ _ _ h => h) (Or.inl ⟨by rfl, ?hyd3⟩) (by assumption) ?restd3
            case hyd3 =>
              intro w hSw
              (try dsimp only at hSw)
              go_simp
              try with_reducible rfl
            try simp only [Act.put, List.setIfInBounds_toArray, List.set_cons_zero, List.set_cons_succ]
            refine wpAnyH_ready (rs := [4]) (by kernel_rfl) (by simp) ?_
            refine AllReadyH.cons (o := { dst := some 14, op := Op.call { callee := Callee.value (Operand.func 44), args := #[Operand.tmp 13], argTypes := #[9] }, type := 4, pos := "l03_site.go:17", after := #[{ on := 3, ground := Ground.data }], guard := none }) rfl (fun K hK => ?_) AllReadyH.nil
            go_simp
            (go_at_call 44; refine (KR.out _).mono ?_; rintro e w2 ⟨rfl, hb2⟩; have z2 : g < w2.heap.size := Nat.lt_of_lt_of_le hz hb2.size; have c2 : w2.cell? ⟨g, m + 1, none⟩ = some (.string t) := ((bcell hb2).1 _ _ hz).trans hck; have d2 : w2.cell? ⟨g, m, none⟩ = some (.string s) := ((bcell hb2).1 _ _ hz).trans hcm)
            try (go_wp2_with fail)
            refine hK.out _ _ ?_ (fun hH1 => ?_)
            · (try dsimp only)
              go_keep
            clear hK K hH0
            try simp only [Act.put, List.setIfInBounds_toArray, List.set_cons_zero, List.set_cons_succ]
            refine wpAnyH_take (i := 5) (oi := { dst := some 15, op := Op.unOp UnOp.not 4 (Operand.tmp 14), type := 4, pos := "l03_site.go:17", after := #[{ on := 4, ground := Ground.data }], guard := none }) (v := ?vd5) rfl (by kernel_rfl) (by kernel_rfl) (by kernel_rfl) (fun _ _ _ h => h) (Or.inl ⟨by rfl, ?hyd5⟩) (by assumption) ?restd5
            case hyd5 =>
              intro w hSw
              (try dsimp only at hSw)
              go_simp
              try with_reducible rfl
            try simp only [Act.put, List.setIfInBounds_toArray, List.set_cons_zero, List.set_cons_succ]
            refine wpAnyH_take (i := 6) (oi := { dst := some 16, op := Op.move (Operand.tmp 15), type := 4, pos := "l03_site.go:17", after := #[{ on := 5, ground := Ground.data }, { on := 4, ground := Ground.chain }], guard := none }) (v := ?vd6) rfl (by kernel_rfl) (by kernel_rfl) (by kernel_rfl) (fun _ _ _ h => h) (Or.inl ⟨by rfl, ?hyd6⟩) (by assumption) ?restd6
            case hyd6 =>
              intro w hSw
              (try dsimp only at hSw)
              go_simp
              try with_reducible rfl
            try simp only [Act.put, List.setIfInBounds_toArray, List.set_cons_zero, List.set_cons_succ]
            refine wpAnyH_take (i := 7) (oi := { dst := some 17, op := Op.move (Operand.tmp 3), type := 3, pos := "l03_site.go:17", after := #[{ on := 6, ground := Ground.guard }], guard := some (6, false) }) (v := ?vd7) rfl (by kernel_rfl) (by kernel_rfl) (by kernel_rfl) (fun _ _ _ h => h) (Or.inl ⟨by rfl, ?hyd7⟩) (by assumption) ?restd7
            case hyd7 =>
              intro w hSw
              (try dsimp only at hSw)
              go_simp
              try with_reducible rfl
            try simp only [Act.put, List.setIfInBounds_toArray, List.set_cons_zero, List.set_cons_succ]
            refine wpAnyH_take (i := 8) (oi := { dst := some 18, op := Op.binOp BinOp.gtr 3 (Operand.tmp 17) (Operand.const (Value.int IntKind.i64 0)) 3, type := 4, pos := "l03_site.go:17", after := #[{ on := 7, ground := Ground.data }, { on := 6, ground := Ground.guard }], guard := some (6, false) }) (v := ?vd8) rfl (by kernel_rfl) (by kernel_rfl) (by kernel_rfl) (fun _ _ _ h => h) (Or.inl ⟨by rfl, ?hyd8⟩) (by assumption) ?restd8
            case hyd8 =>
              intro w hSw
              (try dsimp only at hSw)
              go_simp
              try with_reducible rfl
            try simp only [Act.put, List.setIfInBounds_toArray, List.set_cons_zero, List.set_cons_succ]
            refine wpAnyH_take (i := 9) (oi := { dst := some 19, op := Op.move (Operand.tmp 18), type := 4, pos := "l03_site.go:17", after := #[{ on := 8, ground := Ground.data }, { on := 6, ground := Ground.chain }, { on := 6, ground := Ground.guard }], guard := some (6, false) }) (v := ?vd9) rfl (by kernel_rfl) (by kernel_rfl) (by kernel_rfl) (fun _ _ _ h => h) (Or.inl ⟨by rfl, ?hyd9⟩) (by assumption) ?restd9
            case hyd9 =>
              intro w hSw
              (try dsimp only at hSw)
              go_simp
              try with_reducible rfl
            try simp only [Act.put, List.setIfInBounds_toArray, List.set_cons_zero, List.set_cons_succ]
            refine wpAnyH_take (i := 10) (oi := { dst := some 20, op := Op.move (Operand.tmp 0), type := 23, pos := "l03_site.go:17", after := #[{ on := 9, ground := Ground.guard }], guard := some (9, true) }) (v := ?vd10) rfl (by kernel_rfl) (by kernel_rfl) (by kernel_rfl) (fun _ _ _ h => h) (Or.inl ⟨by rfl, ?hyd10⟩) (by assumption) ?restd10
            case hyd10 =>
              intro w hSw
              (try dsimp only at hSw)
              go_simp
              try with_reducible rfl
            try simp only [Act.put, List.setIfInBounds_toArray, List.set_cons_zero, List.set_cons_succ]
            refine wpAnyH_take (i := 11) (oi := { dst := some 21, op := Op.move (Operand.tmp 3), type := 3, pos := "l03_site.go:17", after := #[{ on := 9, ground := Ground.guard }], guard := some (9, true) }) (v := ?vd11) rfl (by kernel_rfl) (by kernel_rfl) (by kernel_rfl) (fun _ _ _ h => h) (Or.inl ⟨by rfl, ?hyd11⟩) (by assumption) ?restd11
            case hyd11 =>
              intro w hSw
              (try dsimp only at hSw)
              go_simp
              try with_reducible rfl
            try simp only [Act.put, List.setIfInBounds_toArray, List.set_cons_zero, List.set_cons_succ]
            refine wpAnyH_take (i := 12) (oi := { dst := some 22, op := Op.binOp BinOp.sub 3 (Operand.tmp 21) (Operand.const (Value.int IntKind.i64 1)) 3, type := 3, pos := "l03_site.go:17", after := #[{ on := 11, ground := Ground.data }, { on := 9, ground := Ground.guard }], guard := some (9, true) }) (v := ?vd12) rfl (by kernel_rfl) (by kernel_rfl) (by kernel_rfl) (fun _ _ _ h => h) (Or.inl ⟨by rfl, ?hyd12⟩) (by assumption) ?restd12
            case hyd12 =>
              intro w hSw
              (try dsimp only at hSw)
              go_simp
              try with_reducible rfl
            try simp only [Act.put, List.setIfInBounds_toArray, List.set_cons_zero, List.set_cons_succ]
            refine wpAnyH_take (i := 13) (oi := { dst := some 23, op := Op.indexAddr 23 (Operand.tmp 20) (Operand.tmp 22), type := 0, pos := "l03_site.go:17", after := #[{ on := 10, ground := Ground.data }, { on := 12, ground := Ground.data }, { on := 9, ground := Ground.guard }], guard := some (9, true) }) (v := ?vd13) rfl (by kernel_rfl) (by kernel_rfl) (by kernel_rfl) (fun _ _ _ h => h) (Or.inl ⟨by rfl, ?hyd13⟩) (by assumption) ?restd13
            case hyd13 =>
              intro w hSw
              (try dsimp only at hSw)
              go_simp
              try with_reducible rfl
            try simp only [Act.put, List.setIfInBounds_toArray, List.set_cons_zero, List.set_cons_succ]
            refine wpAnyH_take (i := 14) (oi := { dst := some 24, op := Op.load 9 (Operand.tmp 23), type := 9, pos := "l03_site.go:17", after := #[{ on := 13, ground := Ground.data }, { on := 9, ground := Ground.guard }], guard := some (9, true) }) (v := ?vd14) rfl (by kernel_rfl) (by kernel_rfl) (by kernel_rfl) (fun _ _ _ h => h) (Or.inl ⟨by rfl, ?hyd14⟩) (by assumption) ?restd14
            case hyd14 =>
              intro w hSw
              (try dsimp only at hSw)
              go_simp
              try with_reducible rfl
            try simp only [Act.put, List.setIfInBounds_toArray, List.set_cons_zero, List.set_cons_succ]
            refine wpAnyH_take (i := 15) (oi := { dst := some 25, op := Op.move (Operand.tmp 0), type := 23, pos := "l03_site.go:17", after := #[{ on := 9, ground := Ground.guard }], guard := some (9, true) }) (v := ?vd15) rfl (by kernel_rfl) (by kernel_rfl) (by kernel_rfl) (fun _ _ _ h => h) (Or.inl ⟨by rfl, ?hyd15⟩) (by assumption) ?restd15
            case hyd15 =>
              intro w hSw
              (try dsimp only at hSw)
              go_simp
              try with_reducible rfl
            try simp only [Act.put, List.setIfInBounds_toArray, List.set_cons_zero, List.set_cons_succ]
            refine wpAnyH_take (i := 16) (oi := { dst := some 26, op := Op.move (Operand.tmp 3), type := 3, pos := "l03_site.go:17", after := #[{ on := 9, ground := Ground.guard }], guard := some (9, true) }) (v := ?vd16) rfl (by kernel_rfl) (by kernel_rfl) (by kernel_rfl) (fun _ _ _ h => h) (Or.inl ⟨by rfl, ?hyd16⟩) (by assumption) ?restd16
            case hyd16 =>
              intro w hSw
              (try dsimp only at hSw)
              go_simp
              try with_reducible rfl
            try simp only [Act.put, List.setIfInBounds_toArray, List.set_cons_zero, List.set_cons_succ]
            refine wpAnyH_take (i := 17) (oi := { dst := some 27, op := Op.indexAddr 23 (Operand.tmp 25) (Operand.tmp 26), type := 0, pos := "l03_site.go:17", after := #[{ on := 15, ground := Ground.data }, { on := 16, ground := Ground.data }, { on := 9, ground := Ground.guard }], guard := some (9, true) }) (v := ?vd17) rfl (by kernel_rfl) (by kernel_rfl) (by kernel_rfl) (fun _ _ _ h => h) (Or.inl ⟨by rfl, ?hyd17⟩) (by assumption) ?restd17
            case hyd17 =>
              intro w hSw
              (try dsimp only at hSw)
              go_simp
              try with_reducible rfl
            try simp only [Act.put, List.setIfInBounds_toArray, List.set_cons_zero, List.set_cons_succ]
            refine wpAnyH_take (i := 18) (oi := { dst := some 28, op := Op.load 9 (Operand.tmp 27), type := 9, pos := "l03_site.go:17", after := #[{ on := 17, ground := Ground.data }, { on := 9, ground := Ground.guard }], guard := some (9, true) }) (v := ?vd18) rfl (by kernel_rfl) (by kernel_rfl) (by kernel_rfl) (fun _ _ _ h => h) (Or.inl ⟨by rfl, ?hyd18⟩) (by assumption) ?restd18
            case hyd18 =>
              intro w hSw
              (try dsimp only at hSw)
              go_simp
              try with_reducible rfl
            try simp only [Act.put, List.setIfInBounds_toArray, List.set_cons_zero, List.set_cons_succ]
            refine wpAnyH_take (i := 19) (oi := { dst := some 29, op := Op.binOp BinOp.geq 9 (Operand.tmp 24) (Operand.tmp 28) 9, type := 4, pos := "l03_site.go:17", after := #[{ on := 14, ground := Ground.data }, { on := 18, ground := Ground.data }, { on := 9, ground := Ground.guard }], guard := some (9, true) }) (v := ?vd19) rfl (by kernel_rfl) (by kernel_rfl) (by kernel_rfl) (fun _ _ _ h => h) (Or.inl ⟨by rfl, ?hyd19⟩) (by assumption) ?restd19
            case hyd19 =>
              intro w hSw
              (try dsimp only at hSw)
              go_simp
              try with_reducible rfl
            try simp only [Act.put, List.setIfInBounds_toArray, List.set_cons_zero, List.set_cons_succ]
            refine wpAnyH_take (i := 20) (oi := { dst := some 30, op := Op.pick (Operand.tmp 19) (Operand.tmp 29) (Operand.const (Value.bool false)), type := 4, pos := "l03_site.go:17", after := #[{ on := 9, ground := Ground.data }, { on := 19, ground := Ground.data }, { on := 6, ground := Ground.guard }], guard := some (6, false) }) (v := ?vd20) rfl (by kernel_rfl) (by kernel_rfl) (by kernel_rfl) (fun _ _ _ h => h) (Or.inl ⟨by rfl, ?hyd20⟩) (by assumption) ?restd20
            case hyd20 =>
              intro w hSw
              (try dsimp only at hSw)
              go_simp
              try with_reducible rfl
            try simp only [Act.put, List.setIfInBounds_toArray, List.set_cons_zero, List.set_cons_succ]
            refine wpAnyH_take (i := 21) (oi := { dst := some 31, op := Op.pick (Operand.tmp 16) (Operand.const (Value.bool true)) (Operand.tmp 30), type := 4, pos := "l03_site.go:17", after := #[{ on := 6, ground := Ground.data }, { on := 20, ground := Ground.data }], guard := none }) (v := ?vd21) rfl (by kernel_rfl) (by kernel_rfl) (by kernel_rfl) (fun _ _ _ h => h) (Or.inl ⟨by rfl, ?hyd21⟩) (by assumption) ?restd21
            case hyd21 =>
              intro w hSw
              (try dsimp only at hSw)
              go_simp
              try with_reducible rfl
            try simp only [Act.put, List.setIfInBounds_toArray, List.set_cons_zero, List.set_cons_succ]
            refine wpAnyH_done (by kernel_rfl) ?_ _
            go_wp2
            go_ret
            exact ⟨ret_bool HQ.out.symm, (HB.out.trans (Below.drew (Below.refl _ _))).trans (hb2.mono HB.out.size)⟩
    · have HQ : Hid (R = decide (n ≤ 20)) := HA.out.2 (fun i hi => HR.out i (by omega))
      go_wp2
      go_ret
      exact ⟨ret_bool (by rw [HQ.out]; congr 1; exact propext ⟨fun h => by omega, fun h => by omega⟩), HB.out⟩
end Go.Proofs.YtclpamjgglfljaaDoor
