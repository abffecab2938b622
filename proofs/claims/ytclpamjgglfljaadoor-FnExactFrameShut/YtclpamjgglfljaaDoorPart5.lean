/- 16 of this claim's texts, one behind the other. -/
import Derived.Test.YtclpamjgglfljaaDoorPart2
import Derived.Test.YtclpamjgglfljaaDoorPart4
import Derived.Test.YtclpamjgglfljaaDoorPart1
import Derived.Laws.AppendOwn
import Derived.Deep.AppendLies
import Derived.Laws.OwnMore
import Derived.Maps.AppendAt
import Derived.Deep.RegionHeld3
import Derived.RangeFuncNested
import Derived.RangeFuncBound
import Derived.RangeFuncCalls
import Derived.RangeFuncLeaves
import Derived.Shelf.Abstract
import Derived.Shelf.RegionOpen
import Derived.WalkKit
import Derived.OwnWalkIn
import Derived.TacticsInMore
import Derived.LoopNIn
import Derived.LoopIn
import Derived.Maps.OwnIn
import Derived.Test.YtclpamjgglfljaaDoorPart3
import Derived.Deep.DeepCutAuto
import Derived.Laws.ResultCell
/- The walks of the specification's l09Top and FrameTop. Written by laws9.py. -/
namespace Go.Proofs.YtclpamjgglfljaaDoor
open Go.RowKit

/-- the top of a frame -/
def topFr (L : List Fr) (id : Int) : Fr := (wayF L id).getLastD frNone
def topF (L : List Fr) (id : Int) : Int := if (framesB L && hereF L id) = true then (topFr L id).id else 0
theorem topF_right {L : List Fr} (h : framesB L = true) (id : Int) : topF L id = (topFr L id).id := by
  unfold topF
  cases hh : hereF L id with
  | true => rw [h]; rfl
  | false => rw [Bool.and_false, if_neg (by decide)]; unfold topFr; rw [wayF_none hh]; rfl
theorem parent_here {L : List Fr} (h : framesB L = true) {k : Nat} (hk : k < L.length) (hp : (atF L k).pa ≠ 0) : ∃ j, j < k ∧ whF L (atF L k).pa = (j : Int) ∧ (atF L j).id = (atF L k).pa := by
  have hi := ids_of h
  have h1 := (framesB_parts h).2 k hk
  unfold okF at h1
  simp only [Bool.and_eq_true] at h1
  have h2 := h1.2
  unfold holdF at h2
  rw [Bool.or_eq_true, beq_iff_eq, decide_eq_true_eq] at h2
  rcases h2 with h2 | h2
  · exact absurd h2 hp
  · rcases whF_cases (L.take k) (atF L k).pa with ⟨j, hj, -, e1, -⟩ | ⟨e, -⟩
    · rw [List.length_take] at hj
      rw [atF_take (by omega) (by omega)] at e1
      exact ⟨j, by omega, by rw [← e1]; exact (getF_at hi (by omega)).1, e1⟩
    · omega
theorem here_at {L : List Fr} (h : framesB L = true) {k : Nat} (hk : k < L.length) : hereF L (atF L k).id = true ∧ getF L (atF L k).id = atF L k :=
  ⟨(hereF_iff _ _).2 ⟨k, hk, rfl⟩, (getF_at (ids_of h) hk).2⟩
theorem topFr_top {L : List Fr} (h : framesB L = true) {k : Nat} (hk : k < L.length) (hp : (atF L k).pa = 0) : topFr L (atF L k).id = atF L k := by
  obtain ⟨h1, h2⟩ := here_at h hk
  have h0 : hereF L 0 = false := by
    rw [Bool.eq_false_iff]
    intro h0
    obtain ⟨j, hj, e⟩ := (hereF_iff _ _).1 h0
    have := ((ids_of h) j hj).1
    omega
  unfold topFr
  rw [wayF_here h h1, h2, hp, wayF_none h0]
  rfl
theorem topFr_in {L : List Fr} (h : framesB L = true) {k j : Nat} (hk : k < L.length) (hj : j < L.length) (e : (atF L j).id = (atF L k).pa) : topFr L (atF L k).id = topFr L (atF L j).id := by
  obtain ⟨h1, h2⟩ := here_at h hk
  obtain ⟨h3, h4⟩ := here_at h hj
  unfold topFr
  rw [wayF_here h h1, h2, ← e, wayF_here h h3]
  simp [List.getLastD]
end Go.Proofs.YtclpamjgglfljaaDoor

/- Frames within a frame, and the walk of the specification's l09Within. -/
namespace Go.Proofs.YtclpamjgglfljaaDoor
open Go.RowKit

/-- is the frame within that one -/
def inF (L : List Fr) (id outer : Int) : Bool := (wayF L id).any (fun f => f.pa == outer)
theorem inF_none {L : List Fr} {id : Int} (outer : Int) (h : hereF L id = false) : inF L id outer = false := by unfold inF; rw [wayF_none h]; rfl
theorem inF_at {L : List Fr} (h : framesB L = true) {k : Nat} (hk : k < L.length) (outer : Int) : inF L (atF L k).id outer = ((atF L k).pa == outer || inF L (atF L k).pa outer) := by
  unfold inF
  rw [wayF_here h (here_at h hk).1, (here_at h hk).2, List.any_cons]
theorem zero_away {L : List Fr} (h : framesB L = true) : hereF L 0 = false := by
  rw [Bool.eq_false_iff]
  intro h0
  obtain ⟨j, hj, e⟩ := (hereF_iff _ _).1 h0
  have := ((ids_of h) j hj).1
  omega
set_option maxRecDepth 10000 in
set_option maxHeartbeats 4000000 in
theorem specWithin9_any (v : Value) (L : List Fr) (B : Nat) (id outer : Int) (w : World) (hs : SliceF w B v L) (hn : L.length ≤ 1048576) (hL : framesB L = true) :
    Calls Tryd.prog 64 #[v, .int .i64 id, .int .i64 outer] w fun e w' => e = .returned (.bool (inF L id outer)) ∧ w' = w := by
  have KA : Hid (∀ i, Calls Tryd.prog 40 #[v, .int .i64 i] w fun e w' => e = .returned (.int .i64 (whF L i)) ∧ w' = w) := fun i => specAt_any v L B i w hs hn
  have HL : Hid (framesB L = true) := hL
  obtain ⟨⟨p, cap, rfl, hg⟩, -⟩ := hs
  have HG : Hid (0 < L.length → ∃ g, p = some ⟨g, 0, none⟩ ∧ ∀ j, j < L.length → w.cell? ⟨g, j * 9 + 1, none⟩ = some (.int .i64 (atF L j).pa)) := fun h0 => by
    obtain ⟨g, e, -, hgw, hc⟩ := hg h0
    exact ⟨g, e, fun j hj => (hc j hj 1 (by omega)).1⟩
  have HS : Hid (hereF L id = true → 0 + (whF L id).toNat + 1 ≤ L.length) := fun hh => by
    obtain ⟨k0, hk0, ew, -, -⟩ := here_wh hh
    rw [ew]; omega
  clear hg hL
  go_enter Tryd.func64, Tryd.ntmps64
  go_wp2
  go_loopw [1, 7] (fun iv i wr => ∃ (x : Int) (n : Nat), iv = .int .i64 x ∧ i = .int .i64 n ∧ n ≤ L.length ∧ Hid (inF L id outer = inF L x outer) ∧ Hid (hereF L x = true → n + (whF L x).toNat + 1 ≤ L.length) ∧ Hid (wr = w)) (fun _ i _ => L.length + 1 - (intOf i).toNat)
  case atStart => exact ⟨id, 0, rfl, rfl, Nat.zero_le _, rfl, HS, rfl⟩
  case round =>
    obtain ⟨x, n, rfl, rfl, hnl, HR, HP, HE⟩ := hrel
    have n0 : (n : Int) ≤ L.length := by omega
    have KX : Hid (Calls Tryd.prog 40 #[.slice p L.length cap, .int .i64 x] wr fun e w' => e = .returned (.int .i64 (whF L x)) ∧ w' = wr) := by
      show Calls _ _ _ wr _
      rw [HE.out]; exact KA.out x
    cases hh : hereF L x with
    | false =>
      have hw : whF L x < 0 := by
        have e : hereF L x = decide (0 ≤ whF L x) := rfl
        rw [e, decide_eq_false_iff_not] at hh; omega
      have HQ : Hid (inF L id outer = false) := by show _ = _; rw [HR.out, inF_none outer hh]
      clear hh HP HR
      generalize whF L x = k at *
      go_wp2_with fail
      refine KX.out.mono ?_
      rintro e w2 ⟨rfl, e2⟩
      have HE2 : Hid (w2 = w) := e2.trans HE.out
      clear e2 KX HE
      go_wp2
      go_ret
      exact ⟨ret_bool HQ.out.symm, HE2.out⟩
    | true =>
      obtain ⟨k, hk, ew, -, ei⟩ := here_wh hh
      have hnk : n + k + 1 ≤ L.length := by have := HP.out hh; rw [ew] at this; omega
      obtain ⟨g, rfl, hc⟩ := HG.out (by omega)
      have c1 : wr.cell? ⟨g, k * 9 + 1, none⟩ = some (.int .i64 (atF L k).pa) := by rw [HE.out]; exact hc k hk
      have HI : Hid (inF L id outer = ((atF L k).pa == outer || inF L (atF L k).pa outer)) := by show _ = _; rw [HR.out, ← ei, inF_at HL.out hk]
      have HN : Hid (hereF L (atF L k).pa = true → n + 1 + (whF L (atF L k).pa).toNat + 1 ≤ L.length) := fun h => by
        by_cases hp : (atF L k).pa = 0
        · rw [hp, zero_away HL.out] at h; cases h
        · obtain ⟨j, hj, ej, -⟩ := parent_here HL.out hk hp
          rw [ej]; omega
      rw [ew] at KX
      have k0 : (0 : Int) ≤ k := by omega
      have k1 : (k : Int) < L.length := by omega
      have hn1 : n + 1 ≤ L.length := by omega
      clear hc hh HP HR ew ei
      generalize hy : (atF L k).pa = y at *
      clear hy
      by_cases hq : y = outer
      · have q1 : (y == outer) = true := by rw [beq_iff_eq]; exact hq
        have HQ : Hid (inF L id outer = true) := by show _ = _; rw [HI.out, q1]; rfl
        clear hq HI HN
        go_wp2_with fail
        refine KX.out.mono ?_
        rintro e w2 ⟨rfl, e2⟩
        have HE2 : Hid (w2 = w) := e2.trans HE.out
        have d1 : w2.cell? ⟨g, k * 9 + 1, none⟩ = some (.int .i64 y) := by rw [e2]; exact c1
        clear e2 KX HE c1
        go_wp2
        go_ret
        exact ⟨ret_bool HQ.out.symm, HE2.out⟩
      · have q1 : (y == outer) = false := by rw [beq_eq_false_iff_ne]; exact hq
        have HQ : Hid (inF L id outer = inF L y outer) := by show _ = _; rw [HI.out, q1]; rfl
        clear hq HI
        go_wp2_with fail
        refine KX.out.mono ?_
        rintro e w2 ⟨rfl, e2⟩
        have HE2 : Hid (w2 = w) := e2.trans HE.out
        have d1 : w2.cell? ⟨g, k * 9 + 1, none⟩ = some (.int .i64 y) := by rw [e2]; exact c1
        clear e2 KX HE c1
        go_wp2
        go_roundw
        case rel => exact ⟨y, n + 1, rfl, by go_num, hn1, HQ, HN, HE2⟩
        case measure => simp [intOf]; omega
end Go.Proofs.YtclpamjgglfljaaDoor

/- Where an owned row lies. -/
namespace Go.Proofs.YtclpamjgglfljaaDoor
open Go.RowKit
theorem own_base {w : World} {B n sz : Nat} {e : TypeId} {v : Value} {xs : List Value} (h : w.ownsRow B e sz v n xs) : ∀ j, v.ownBlock = some j → B ≤ j := by
  intro j hj
  obtain ⟨_, ⟨rfl, _⟩ | ⟨g, cap, cur, rfl, hB, _⟩⟩ := h
  · cases hj
  · have : g = j := Option.some.inj hj
    omega
end Go.Proofs.YtclpamjgglfljaaDoor

/- Rows of frames that a call owns. Written by rowsown.py. -/
namespace Go.Proofs.YtclpamjgglfljaaDoor
open Go.RowKit

/-- the cells of one -/
def frVals (c : Fr) : List Value := [.int .i64 c.id, .int .i64 c.pa, .string c.sc, .string c.ho, .int .i64 c.po, .string c.pt, .bool c.sb, .bool c.fl, .int .i64 c.tc]
def frCells : List Fr → List Value
  | [] => []
  | c :: L => frVals c ++ frCells L
theorem frCells_snoc (L : List Fr) (c : Fr) : frCells L ++ frVals c = frCells (L ++ [c]) := by
  induction L with
  | nil => simp [frCells]
  | cons q L ih => simp only [frCells, List.cons_append, List.append_assoc, ih]
theorem frCells_len (L : List Fr) : (frCells L).length = L.length * 9 := by
  induction L with
  | nil => rfl
  | cons q L ih => simp only [frCells, List.length_append, ih, List.length_cons]; show 9 + _ = _; omega
theorem frVals_at (c : Fr) : ∀ o, o < 9 → (frVals c)[o]? = some (frC c o)
  | 0, _ => rfl
  | 1, _ => rfl
  | 2, _ => rfl
  | 3, _ => rfl
  | 4, _ => rfl
  | 5, _ => rfl
  | 6, _ => rfl
  | 7, _ => rfl
  | 8, _ => rfl
theorem frCells_at : ∀ (L : List Fr) (j : Nat), j < L.length → ∀ o, o < 9 → (frCells L)[j * 9 + o]? = some (frR L j o)
  | [], j, h, _, _ => by simp at h
  | c :: L, 0, _, o, ho => by
    rw [Nat.zero_mul, Nat.zero_add, frCells, List.getElem?_append_left (by show o < 9; exact ho), frVals_at c o ho]
    rfl
  | c :: L, j + 1, h, o, ho => by
    have ih := frCells_at L j (by simpa using h) o ho
    have hl : (frVals c).length = 9 := rfl
    rw [frCells, List.getElem?_append_right (by rw [hl]; omega), hl, show (j + 1) * 9 + o - 9 = j * 9 + o by omega, ih]
    simp [frR, atF]
theorem sliceF_of_own {w : World} {B : Nat} {t : TypeId} {v : Value} {L : List Fr} (h : w.ownsRow B t 9 v L.length (frCells L)) : SliceF w B v L := by
  refine ⟨sliceR_of_own h (frCells_at L), ?_⟩
  obtain ⟨_, ⟨rfl, h0⟩ | ⟨g, cap, cur, rfl, _, _, hc, _⟩⟩ := h
  · exact ⟨none, 0, by rw [h0], by omega, fun _ => rfl⟩
  · exact ⟨_, cap, rfl, hc, fun h => by cases h⟩
theorem sliceF_none (w : World) (B : Nat) : SliceF w B (.slice none 0 0) [] := ⟨sliceR_none _ _ _ _ _ _, none, 0, rfl, Nat.le_refl _, fun _ => rfl⟩
theorem cell_Fr (w : World) (c : Fr) (t : TypeId) : ∀ j u, (frVals c)[j]? = some u → (w.alloc (.cells #[.int .i64 c.id, .int .i64 c.pa, .string c.sc, .string c.ho, .int .i64 c.po, .string c.pt, .bool c.sb, .bool c.fl, .int .i64 c.tc] t)).cell? ((⟨w.heap.size, 0, none⟩ : Addr).add j) = some u := by
  intro j u h
  have e : (⟨w.heap.size, 0, none⟩ : Addr).add j = ⟨w.heap.size, j, none⟩ := by unfold Addr.add; split <;> simp_all
  rw [e, World.cell?_alloc_new, ← Array.getElem?_toList]
  exact h
theorem one_Fr (c : Fr) : ∀ v ∈ frVals c, v.oneCell' = true := by
  intro u hu
  simp only [frVals, List.mem_cons, List.not_mem_nil, or_false] at hu
  rcases hu with rfl | rfl | rfl | rfl | rfl | rfl | rfl | rfl | rfl <;> rfl
/-- a row of them, kept while other blocks are written -/
theorem ownF_keep {w w' : World} {B n sz : Nat} {row : Option Nat} {e : TypeId} {v : Value} {xs : List Value} (h : w.ownsRow B e sz v n xs) (hg : w.grownBy w' row) (hne : ∀ g, v.ownBlock = some g → row ≠ some g) : w'.ownsRow B e sz v n xs := by
  obtain ⟨hl, h0 | ⟨g, cap, cur, rfl, hbg, hh, r⟩⟩ := h
  · exact ⟨hl, .inl h0⟩
  · have hgl : g < w.heap.size := (Array.getElem?_eq_some_iff.mp hh).1
    exact ⟨hl, .inr ⟨g, cap, cur, rfl, hbg, by rw [hg.block g hgl (fun e => hne g rfl e.symm)]; exact hh, r⟩⟩
end Go.Proofs.YtclpamjgglfljaaDoor

/- The walk of the specification's l09Inner. Written by specshut.py. -/
namespace Go.Proofs.YtclpamjgglfljaaDoor
open Go.RowKit

/-- those that are not within that one -/
def innerF (L : List Fr) (id : Int) : List Fr := L.filter (fun f => !(inF L f.id id))
theorem filt_step {p : Fr → Bool} {L : List Fr} {k : Nat} (hk : k < L.length) : (L.take (k + 1)).filter p = if p (atF L k) = true then (L.take k).filter p ++ [atF L k] else (L.take k).filter p := by
  rw [List.take_succ_eq_append_getElem hk, List.filter_append, ← atF_get hk]
  cases h : p (atF L k) with
  | true => rw [if_pos rfl, List.filter_cons_of_pos h, List.filter_nil]
  | false => rw [if_neg (by decide), List.filter_cons_of_neg (by rw [h]; decide), List.filter_nil, List.append_nil]
set_option maxRecDepth 10000 in
set_option maxHeartbeats 8000000 in
theorem specInner9_any (v : Value) (L : List Fr) (B : Nat) (id : Int) (w : World) (hs : SliceF w B v L) (hn : L.length ≤ 1000) (hL : framesB L = true) :
    Calls Tryd.prog 41 #[v, .int .i64 id] w fun e w' => ∃ v', e = .returned v' ∧ w'.ownsRow w.heap.size 54 9 v' (innerF L id).length (frCells (innerF L id)) ∧ Below w.heap.size w w' := by
  have KI : Hid (∀ x W, Below w.heap.size w W → Calls Tryd.prog 64 #[v, .int .i64 x, .int .i64 id] W fun e w' => e = .returned (.bool (inF L x id)) ∧ w' = W) := fun x W hb => specWithin9_any v L B x id W (hs.below hb) (by omega) hL
  obtain ⟨P, hP⟩ : ∃ P : Fr → Bool, P = fun f => !(inF L f.id id) := ⟨_, rfl⟩
  have HIn : Hid (innerF L id = L.filter P) := by show _ = _; rw [hP]; rfl
  have HPt : Hid (∀ y : Fr, inF L y.id id = true → P y = false) := fun y h => by rw [hP]; show (!(inF L y.id id)) = false; rw [h]; rfl
  have HPf : Hid (∀ y : Fr, inF L y.id id = false → P y = true) := fun y h => by rw [hP]; show (!(inF L y.id id)) = true; rw [h]; rfl
  have HST : Hid (∀ k, k < L.length → (L.take (k + 1)).filter P = if P (atF L k) = true then (L.take k).filter P ++ [atF L k] else (L.take k).filter P) := fun k hk => filt_step hk
  have HLE : Hid (∀ k, ((L.take k).filter P).length ≤ k) := fun k => Nat.le_trans (List.length_filter_le _ _) (by rw [List.length_take]; omega)
  have HSN : Hid (∀ (Y : List Fr) (c : Fr), frCells Y ++ frVals c = frCells (Y ++ [c])) := fun Y c => frCells_snoc Y c
  obtain ⟨i0, hi, hy0, hy1, hy2⟩ := info_parts infoFrame
  obtain ⟨⟨q, cap, rfl, hg⟩, -⟩ := hs
  have HG : Hid (0 < L.length → ∃ g, q = some ⟨g, 0, none⟩ ∧ g < w.heap.size ∧ ∀ j, j < L.length → ∀ o, o < 9 → w.cell? ⟨g, j * 9 + o, none⟩ = some (frC (atF L j) o)) := fun h0 => by
    obtain ⟨g, e, -, hgw, hc⟩ := hg h0
    exact ⟨g, e, hgw, fun j hj o ho => (hc j hj o ho).1⟩
  have O0 : Hid ((w.alloc (.cells #[] 54)).ownsRow w.heap.size 54 9 (.slice (some ⟨w.heap.size, 0, none⟩) 0 0) ((L.take 0).filter P).length (frCells ((L.take 0).filter P))) := by
    show World.ownsRow _ _ _ _ _ _ _
    rw [List.take_zero]
    exact World.ownsRow_made w #[] 0 (Nat.le_refl _) (Nat.zero_le _) rfl
  have B00 : Hid (Below w.heap.size w (w.alloc (.cells #[] 54))) := (Below.refl _ _).alloc (Nat.le_refl _) _
  clear hg hP hL
  go_enter Tryd.func41, Tryd.ntmps41
  go_wp2
  go_loopw [5, 6] (fun stv i wr => ∃ (k : Nat) (sl : Value), sl = stv ∧ k ≤ L.length ∧ i = .int .i64 k ∧ Hid (wr.ownsRow w.heap.size 54 9 sl ((L.take k).filter P).length (frCells ((L.take k).filter P))) ∧ Hid (Below w.heap.size w wr)) (fun _ i _ => L.length - (intOf i).toNat)
  case atStart => exact ⟨0, _, rfl, Nat.zero_le _, rfl, O0, B00⟩
  case round =>
    obtain ⟨k, sl, rfl, hk, rfl, HO, HB⟩ := hrel
    have hws : w.heap.size ≤ wr.heap.size := HB.out.size
    by_cases hlt : k < L.length
    · obtain ⟨g, rfl, hgw, hc⟩ := HG.out (by omega)
      have k0 : (0 : Int) ≤ k := by omega
      have k1 : (k : Int) < L.length := by omega
      have KI0 : Hid (Calls Tryd.prog 64 #[.slice (some ⟨g, 0, none⟩) L.length cap, .int .i64 (atF L k).id, .int .i64 id] wr fun e w' => e = .returned (.bool (inF L (atF L k).id id)) ∧ w' = wr) := KI.out _ wr HB.out
      have c0 : wr.cell? ⟨g, k * 9, none⟩ = some (.int .i64 (atF L k).id) := by rw [(bcell HB.out).1 _ _ hgw]; exact hc k hlt 0 (by omega)
      have c1 : wr.cell? ⟨g, k * 9 + 1, none⟩ = some (.int .i64 (atF L k).pa) := by rw [(bcell HB.out).1 _ _ hgw]; exact hc k hlt 1 (by omega)
      have c2 : wr.cell? ⟨g, k * 9 + 2, none⟩ = some (.string (atF L k).sc) := by rw [(bcell HB.out).1 _ _ hgw]; exact hc k hlt 2 (by omega)
      have c3 : wr.cell? ⟨g, k * 9 + 3, none⟩ = some (.string (atF L k).ho) := by rw [(bcell HB.out).1 _ _ hgw]; exact hc k hlt 3 (by omega)
      have c4 : wr.cell? ⟨g, k * 9 + 4, none⟩ = some (.int .i64 (atF L k).po) := by rw [(bcell HB.out).1 _ _ hgw]; exact hc k hlt 4 (by omega)
      have c5 : wr.cell? ⟨g, k * 9 + 5, none⟩ = some (.string (atF L k).pt) := by rw [(bcell HB.out).1 _ _ hgw]; exact hc k hlt 5 (by omega)
      have c6 : wr.cell? ⟨g, k * 9 + 6, none⟩ = some (.bool (atF L k).sb) := by rw [(bcell HB.out).1 _ _ hgw]; exact hc k hlt 6 (by omega)
      have c7 : wr.cell? ⟨g, k * 9 + 7, none⟩ = some (.bool (atF L k).fl) := by rw [(bcell HB.out).1 _ _ hgw]; exact hc k hlt 7 (by omega)
      have c8 : wr.cell? ⟨g, k * 9 + 8, none⟩ = some (.int .i64 (atF L k).tc) := by rw [(bcell HB.out).1 _ _ hgw]; exact hc k hlt 8 (by omega)
      have HYes : Hid (inF L (atF L k).id id = true → (L.take (k + 1)).filter P = (L.take k).filter P) := fun h => by rw [HST.out k hlt, if_neg (by rw [HPt.out _ h]; decide)]
      have HNo : Hid (inF L (atF L k).id id = false → (L.take (k + 1)).filter P = (L.take k).filter P ++ [atF L k]) := fun h => by rw [HST.out k hlt, if_pos (HPf.out _ h)]
      have hle := HLE.out k
      clear hc
      generalize hct : inF L (atF L k).id id = ct at *
      clear hct
      generalize atF L k = y at *
      generalize hY2 : (L.take (k + 1)).filter P = Y2 at *
      generalize (L.take k).filter P = Y at *
      generalize hm : Y.length = m at *
      have HM : Hid (Y.length = m) := hm
      clear hm
      obtain ⟨yid, ypa, ysc, yho, ypo, ypt, ysb, yfl, ytc⟩ := y
      dsimp only at *
      go_wp2_with fail
      refine KI0.out.mono ?_
      rintro e w2 ⟨rfl, e2⟩
      have e3 := e2.symm
      subst e3
      cases ct with
      | true =>
        have O5 : Hid (wr.ownsRow w.heap.size 54 9 sl Y2.length (frCells Y2)) := by
          show World.ownsRow _ _ _ _ _ _ _
          rw [HYes.out rfl, HM.out]
          exact HO.out
        clear HYes HNo KI0 c0 c1 c2 c3 c4 c5 c6 c7 c8 HO
        go_wp2
        go_roundw
        case rel => exact ⟨k + 1, _, rfl, by omega, by go_num, by rw [hY2]; exact O5, HB⟩
        case measure => simp [intOf]; omega
      | false =>
        have HY2 : Hid (Y2 = Y ++ [⟨yid, ypa, ysc, yho, ypo, ypt, ysb, yfl, ytc⟩]) := HNo.out rfl
        clear HYes HNo KI0
        go_wp2_with (at_builtin; go_must (refine wpList_append_own _ rfl _ _ 29 rfl w.heap.size 54 i0 (.agg #[.int .i64 0, .int .i64 0, .string ⟨#[]⟩, .string ⟨#[]⟩, .int .i64 0, .string ⟨#[]⟩, .bool false, .bool false, .int .i64 0]) 9 88 Tryd.underlying29 hi hy0 hy1 hy2 rfl (by decide) _ _ _ rfl (HO.out.alloc _) ⟨wr.heap.size, 0, none⟩ 1 1 (frVals ⟨yid, ypa, ysc, yho, ypo, ypt, ysb, yfl, ytc⟩) rfl rfl (cell_Fr _ ⟨yid, ypa, ysc, yho, ypo, ypt, ysb, yfl, ytc⟩ _) (one_Fr ⟨yid, ypa, ysc, yho, ypo, ypt, ysb, yfl, ytc⟩) (by unfold maxLen; omega) (by omega) (by simp; omega) ?_))
        intro v1 w4 ho1 hg1 hn1
        have hb4 : Below w.heap.size w w4 := (HB.out.alloc HB.out.size _).grown hg1 (Nat.le_trans HB.out.size (by simp)) (fun j hj => own_base HO.out j hj)
        have O5 : Hid (w4.ownsRow w.heap.size 54 9 v1 Y2.length (frCells Y2)) := by
          show World.ownsRow _ _ _ _ _ _ _
          rw [HY2.out, ← HSN.out, List.length_append, HM.out]
          exact ho1
        have B4 : Hid (Below w.heap.size w w4) := hb4
        clear ho1 hg1 hn1 hb4 c0 c1 c2 c3 c4 c5 c6 c7 c8 HO
        go_wp2
        go_roundw
        case rel => exact ⟨k + 1, _, rfl, by omega, by go_num, by rw [hY2]; exact O5, B4⟩
        case measure => simp [intOf]; omega
    · have hkL : k = L.length := by omega
      subst hkL
      have O5 : Hid (wr.ownsRow w.heap.size 54 9 sl (innerF L id).length (frCells (innerF L id))) := by
        show World.ownsRow _ _ _ _ _ _ _
        have h := HO.out
        rw [List.take_length] at h
        rw [HIn.out]
        exact h
      clear HO
      go_wp2
      go_ret
      exact ⟨_, rfl, O5.out, HB.out⟩
end Go.Proofs.YtclpamjgglfljaaDoor

/- The box of an answer of the functions of frames. -/
namespace Go.Proofs.YtclpamjgglfljaaDoor
open Go.RowKit

/-- an answer of frames -/
structure FO where
  ar : List Fr
  id : Int
  co : Int
/-- an answer's value -/
def AnsF (w : World) (B : Nat) (v : Value) (x : FO) : Prop := ∃ s, v = .agg #[s, .int .i64 x.id, .int .i64 x.co] ∧ SliceF w B s x.ar
theorem AnsF.below {w w' : World} {B : Nat} {v : Value} {x : FO} (h : AnsF w B v x) (hb : Below w.heap.size w w') : AnsF w' B v x := by
  obtain ⟨s, rfl, hs⟩ := h
  exact ⟨s, rfl, hs.below hb⟩
/-- an empty answer lies in the block -/
structure BoxF (W : World) (b : Nat) : Prop where
  c0 : W.cell? ⟨b, 0, none⟩ = some (.slice none 0 0)
  c1 : W.cell? ⟨b, 1, none⟩ = some (.int .i64 0)
  c2 : W.cell? ⟨b, 2, none⟩ = some (.int .i64 0)
  f0 : W.frozen? ⟨b, 0, none⟩ = false
  f1 : W.frozen? ⟨b, 1, none⟩ = false
  f2 : W.frozen? ⟨b, 2, none⟩ = false
  lt : b < W.heap.size
theorem BoxF.of_block {W W' : World} {b : Nat} (h : BoxF W b) (hb : W'.heap[b]? = W.heap[b]?) (hs : W.heap.size ≤ W'.heap.size) : BoxF W' b :=
  ⟨by rw [World.cell?_of_block (a := ⟨b, 0, none⟩) hb]; exact h.c0, by rw [World.cell?_of_block (a := ⟨b, 1, none⟩) hb]; exact h.c1, by rw [World.cell?_of_block (a := ⟨b, 2, none⟩) hb]; exact h.c2,
   by rw [World.frozen?_of_block (a := ⟨b, 0, none⟩) hb]; exact h.f0, by rw [World.frozen?_of_block (a := ⟨b, 1, none⟩) hb]; exact h.f1, by rw [World.frozen?_of_block (a := ⟨b, 2, none⟩) hb]; exact h.f2, Nat.lt_of_lt_of_le h.lt hs⟩
theorem BoxF.below {W W' : World} {b : Nat} (h : BoxF W b) (hb : Below W.heap.size W W') : BoxF W' b := h.of_block (hb.block b h.lt) hb.size
theorem BoxF.grown {W W' : World} {b G : Nat} (h : BoxF W b) (hg : W.grownBy W' (some G)) (hne : b ≠ G) : BoxF W' b := h.of_block (hg.block b h.lt (fun e => hne (Option.some.inj e))) hg.size
theorem boxF_made (w : World) (t : TypeId) : BoxF (w.alloc (.cells #[.slice none 0 0, .int .i64 0, .int .i64 0] t)) w.heap.size := ⟨by simp, by simp, by simp, by simp, by simp, by simp, by simp⟩
theorem store3F_below {w W : World} {b : Nat} {x y z : Value} (h : Below b w W) : Below b w (((W.setCell ⟨b, 0, none⟩ x).setCell ⟨b, 1, none⟩ y).setCell ⟨b, 2, none⟩ z) :=
  Below.setCell (Below.setCell (Below.setCell h (Nat.le_refl b) _) (Nat.le_refl b) _) (Nat.le_refl b) _
/-- a slice stays while an answer's box below it is written -/
theorem SliceF.store3 {W : World} {b B : Nat} {v x y z : Value} {L : List Fr} (h : SliceF W B v L) (hb : b < B) : SliceF (((W.setCell ⟨b, 0, none⟩ x).setCell ⟨b, 1, none⟩ y).setCell ⟨b, 2, none⟩ z) B v L := by
  have hz : (((W.setCell ⟨b, 0, none⟩ x).setCell ⟨b, 1, none⟩ y).setCell ⟨b, 2, none⟩ z).heap.size = W.heap.size := by simp
  have hk : ∀ k, k ≠ b → (((W.setCell ⟨b, 0, none⟩ x).setCell ⟨b, 1, none⟩ y).setCell ⟨b, 2, none⟩ z).heap[k]? = W.heap[k]? := fun k hk => by
    simp only [World.setCell, Array.getElem?_modify]
    rw [if_neg (Ne.symm hk), if_neg (Ne.symm hk), if_neg (Ne.symm hk)]
  obtain ⟨⟨p, cap, rfl, hg⟩, h2⟩ := h
  refine ⟨⟨p, cap, rfl, fun hn => ?_⟩, h2⟩
  obtain ⟨g, rfl, hB, hgw, hc⟩ := hg hn
  refine ⟨g, rfl, hB, by rw [hz]; exact hgw, fun j hj o ho => ⟨?_, ?_⟩⟩
  · rw [World.cell?_of_block (a := ⟨g, j * 9 + o, none⟩) (hk g (by omega))]; exact (hc j hj o ho).1
  · rw [World.frozen?_of_block (a := ⟨g, j * 9 + o, none⟩) (hk g (by omega))]; exact (hc j hj o ho).2
end Go.Proofs.YtclpamjgglfljaaDoor

/- FrameOpen as a plain function. Written by implopen.py. -/
namespace Go.Proofs.YtclpamjgglfljaaDoor
open Go.RowKit

def oneF (L : List Fr) (pa : Int) (sc ho pt : ByteArray) (po : Int) (sb : Bool) : Fr := ⟨lastF L + 1, pa, sc, ho, po, pt, sb, false, 0⟩
def openF (L : List Fr) (pa : Int) (sc ho pt : ByteArray) (po : Int) (sb : Bool) : FO :=
  if 400 < L.length then ⟨[], 0, 2⟩
  else if (framesB L && urlB sc ho pt po && boxF pa sb) = false then ⟨[], 0, 1⟩
  else if holdF L pa = false then ⟨[], 0, 6⟩
  else if L.length = 10 ∨ lastF L = 1000000 then ⟨[], 0, 9⟩
  else ⟨L ++ [oneF L pa sc ho pt po sb], lastF L + 1, 0⟩
theorem openF_size {L : List Fr} {pa : Int} {sc ho pt : ByteArray} {po : Int} {sb : Bool} (h : 400 < L.length) : openF L pa sc ho pt po sb = ⟨[], 0, 2⟩ := by unfold openF; rw [if_pos h]
theorem openF_form {L : List Fr} {pa : Int} {sc ho pt : ByteArray} {po : Int} {sb : Bool} (h : ¬ 400 < L.length) (h1 : (framesB L && urlB sc ho pt po && boxF pa sb) = false) : openF L pa sc ho pt po sb = ⟨[], 0, 1⟩ := by unfold openF; rw [if_neg h, if_pos h1]
theorem openF_none {L : List Fr} {pa : Int} {sc ho pt : ByteArray} {po : Int} {sb : Bool} (h : ¬ 400 < L.length) (h1 : (framesB L && urlB sc ho pt po && boxF pa sb) = true) (h2 : holdF L pa = false) : openF L pa sc ho pt po sb = ⟨[], 0, 6⟩ := by unfold openF; rw [if_neg h, if_neg (by rw [h1]; decide), if_pos h2]
theorem openF_full {L : List Fr} {pa : Int} {sc ho pt : ByteArray} {po : Int} {sb : Bool} (h : ¬ 400 < L.length) (h1 : (framesB L && urlB sc ho pt po && boxF pa sb) = true) (h2 : holdF L pa = true) (h3 : L.length = 10 ∨ lastF L = 1000000) : openF L pa sc ho pt po sb = ⟨[], 0, 9⟩ := by unfold openF; rw [if_neg h, if_neg (by rw [h1]; decide), if_neg (by rw [h2]; decide), if_pos h3]
theorem openF_ok {L : List Fr} {pa : Int} {sc ho pt : ByteArray} {po : Int} {sb : Bool} (h : ¬ 400 < L.length) (h1 : (framesB L && urlB sc ho pt po && boxF pa sb) = true) (h2 : holdF L pa = true) (h3 : L.length ≠ 10) (h4 : lastF L ≠ 1000000) : openF L pa sc ho pt po sb = ⟨L ++ [oneF L pa sc ho pt po sb], lastF L + 1, 0⟩ := by unfold openF; rw [if_neg h, if_neg (by rw [h1]; decide), if_neg (by rw [h2]; decide), if_neg (by omega)]
theorem openF_len (L : List Fr) (pa : Int) (sc ho pt : ByteArray) (po : Int) (sb : Bool) : (openF L pa sc ho pt po sb).ar.length ≤ 11 := by
  unfold openF
  split
  · simp
  · split
    · simp
    · rename_i h
      split
      · simp
      · split
        · simp
        · have h1 : (framesB L && urlB sc ho pt po && boxF pa sb) = true := by
            cases e : (framesB L && urlB sc ho pt po && boxF pa sb) with
            | true => rfl
            | false => exact absurd e h
          rw [Bool.and_eq_true, Bool.and_eq_true] at h1
          have := (framesB_parts h1.1.1).1
          simp; omega
end Go.Proofs.YtclpamjgglfljaaDoor

/- append to a slice whose capacity is cut to its length: a new row. -/
namespace Go.Proofs.YtclpamjgglfljaaDoor
open Go.RowKit

theorem run_append_cut {P : Program} (w : World) (base : Nat) (t ty e : TypeId) (i : TypeInfo) (z : Value) (size bytes : Nat) (ht : P.underlying t = some (.slice e)) (hi : P.info? e = some i) (hz : i.zero = some z)
    (hsize : i.size = size) (hby : i.bytes = bytes) (hzs : z.cells.size = size) (b : Addr) (n : Nat) (olds : List Value) (hlo : olds.length = n * size) (holds : ∀ j u, olds[j]? = some u → w.cell? (b.add j) = some u)
    (a : Addr) (m c : Nat) (news : List Value) (hl : news.length = m * size) (hnews : ∀ j u, news[j]? = some u → w.cell? (a.add j) = some u) (hm : 0 < m)
    (h63 : n + m ≤ maxLen) (hbytes : (n + m) * bytes ≤ 140737488355328) (hbase : base ≤ w.heap.size) :
    ∃ cap w', (Builtin.append_ #[t, t] ty #[.slice (some b) n n, .slice (some a) m c]).run P w = .ok (.slice (some ⟨w.heap.size, 0, none⟩) (n + m) cap) w' ∧ w'.ownsRow base e size (.slice (some ⟨w.heap.size, 0, none⟩) (n + m) cap) (n + m) (olds ++ news) ∧ w.grownBy w' none := by
  subst hsize
  subst hby
  have hlen : (olds ++ news).length = (n + m) * i.size := by rw [List.length_append, hlo, hl, Nat.add_mul]
  have hsmall : n + m ≤ 9223372036854775807 := by simp only [maxLen] at h63; omega
  have hr := run_append_grow (P := P) w t ty e i z ht hi hz b n n olds hlo holds a m c news hl hnews (by omega) (by omega) (growslice_fits (by omega) hbytes)
  have hge := grownCap_ge w (n + m) n e
  have hcm : grownCap w (n + m) n e ≤ maxLen := grownCap_le_maxLen w (n + m) n e h63
  refine ⟨_, _, hr, ⟨hlen, .inr ⟨w.heap.size, _, _, rfl, hbase, heap_alloc_new w.drew _, hge, hcm, ?_, ?_⟩⟩, ⟨rfl, rfl, rfl, by simp, fun k hk _ => by first | exact heap_alloc_old w.drew _ k hk | exact heap_alloc_old w.drew _ hk⟩⟩
  · simp only [Array.size_append, List.size_toArray, size_zeroCells, hzs, hlo, hl, ← Nat.add_mul]
    congr 1
    omega
  · simp only [Array.toList_append, List.append_assoc]
    rw [← List.append_assoc, ← hlen]
    exact List.take_left
theorem wp_append_cut {P : Program} {w : World} {o : Oper} {a : Act} {K : Act → World → Prop} {Q : Exit → Act → World → Prop} (s x : Operand) (t : TypeId) (ho : o.op = .call { callee := .builtin .append, args := #[s, x], argTypes := #[t, t] })
    (base : Nat) (e : TypeId) (i : TypeInfo) (z : Value) (size bytes : Nat) (ht : P.underlying t = some (.slice e)) (hi : P.info? e = some i) (hz : i.zero = some z) (hsize : i.size = size) (hby : i.bytes = bytes) (hzs : z.cells.size = size)
    (b : Addr) (n : Nat) (hs : a.eval s = .slice (some b) n n) (olds : List Value) (hlo : olds.length = n * size) (holds : ∀ j u, olds[j]? = some u → w.cell? (b.add j) = some u)
    (ad : Addr) (m c : Nat) (news : List Value) (hx : a.eval x = .slice (some ad) m c) (hl : news.length = m * size) (hnews : ∀ j u, news[j]? = some u → w.cell? (ad.add j) = some u) (hm : 0 < m)
    (h63 : n + m ≤ maxLen) (hbytes : (n + m) * bytes ≤ 140737488355328) (hbase : base ≤ w.heap.size)
    (h : ∀ cap w', w'.ownsRow base e size (.slice (some ⟨w.heap.size, 0, none⟩) (n + m) cap) (n + m) (olds ++ news) → w.grownBy w' none → K (a.put o.dst (.slice (some ⟨w.heap.size, 0, none⟩) (n + m) cap)) w') : o.wp P a w K Q := by
  obtain ⟨cap, w', hr, h2, h3⟩ := run_append_cut (P := P) w base t o.type e i z size bytes ht hi hz hsize hby hzs b n olds hlo holds ad m c news hl hnews hm h63 hbytes hbase
  unfold Oper.wp execOp
  simp only [ho, resolve, invoke, builtin, Sem.run_bind, Sem.run_pure, Result.andThen_ok, List.map_toArray, List.map_cons, List.map_nil, hs, hx, hr]
  exact h cap w' h2 h3
/- append of nil to what is the call's own: nothing changes. -/
theorem wp_append_nil {P : Program} {w : World} {o : Oper} {a : Act} {K : Act → World → Prop} {Q : Exit → Act → World → Prop} (s x : Operand) (t : TypeId) (ho : o.op = .call { callee := .builtin .append, args := #[s, x], argTypes := #[t, t] })
    (base : Nat) (e : TypeId) (i : TypeInfo) (size : Nat) (ht : P.underlying t = some (.slice e)) (hi : P.info? e = some i)
    (v : Value) (n : Nat) (xs : List Value) (hs : a.eval s = v) (hown : w.ownsRow base e size v n xs) (hx : a.eval x = .slice none 0 0)
    (h : K (a.put o.dst v) w) : o.wp P a w K Q := by
  have hr := run_append_owned_none (P := P) (w := w) base t o.type e i size ht hi v n xs hown
  unfold Oper.wp execOp
  simp only [ho, resolve, invoke, builtin, Sem.run_bind, Sem.run_pure, Result.andThen_ok, List.map_toArray, List.map_cons, List.map_nil, hs, hx, hr]
  exact h
end Go.Proofs.YtclpamjgglfljaaDoor

/- The walks of the specification's l09Ill, l09Open and FrameOpen. Written by specopen.py. -/
namespace Go.Proofs.YtclpamjgglfljaaDoor
open Go.RowKit

theorem one_cellsF : ∀ M : List Fr, ∀ v ∈ frCells M, v.oneCell' = true
  | [], v, h => by cases h
  | c :: M, v, h => by
    rw [frCells, List.mem_append] at h
    rcases h with h | h
    · exact one_Fr c v h
    · exact one_cellsF M v h
theorem cells_allF {w : World} {g : Nat} {L : List Fr} (hc : ∀ j, j < L.length → ∀ o, o < 9 → w.cell? ⟨g, j * 9 + o, none⟩ = some (frC (atF L j) o)) :
    ∀ j u, (frCells L)[j]? = some u → w.cell? ((⟨g, 0, none⟩ : Addr).add j) = some u := by
  intro j u h
  have hlt : j < L.length * 9 := by
    have := (List.getElem?_eq_some_iff.1 h).1
    rw [frCells_len] at this; exact this
  have e : (⟨g, 0, none⟩ : Addr).add j = ⟨g, j / 9 * 9 + j % 9, none⟩ := by
    have e1 : (⟨g, 0, none⟩ : Addr).add j = ⟨g, j, none⟩ := by unfold Addr.add; split <;> simp_all
    rw [e1, show j = j / 9 * 9 + j % 9 by omega]
    congr 1; omega
  have h3 := frCells_at L (j / 9) (by omega) (j % 9) (Nat.mod_lt _ (by decide))
  rw [show j / 9 * 9 + j % 9 = j by omega, h] at h3
  rw [e, hc _ (by omega) _ (Nat.mod_lt _ (by decide))]
  exact h3.symm
theorem wpList_append_nilF {P : Program} {w : World} {ops : Array Oper} {rest : List Oper} {o : Oper} {a : Act} {Q : Exit → Act → World → Prop} (hgd : o.guard = none) (s x : Operand) (t : TypeId) (ho : o.op = .call { callee := .builtin .append, args := #[s, x], argTypes := #[t, t] })
    (base : Nat) (e : TypeId) (i : TypeInfo) (size : Nat) (ht : P.underlying t = some (.slice e)) (hi : P.info? e = some i)
    (v : Value) (n : Nat) (xs : List Value) (hs : a.eval s = v) (hown : w.ownsRow base e size v n xs) (hx : a.eval x = .slice none 0 0)
    (h : ∀ w', Hid (w' = w) → wpList P ops Q rest (a.put o.dst v) w') : wpList P ops Q (o :: rest) a w :=
  wpList_plain hgd fun _ hK => wp_append_nil s x t ho base e i size ht hi v n xs hs hown hx (hK _ _ (h w rfl))
theorem specIll9_any (c : Int) (w : World) :
    Calls Tryd.prog 23 #[.int .i64 c] w fun e w' => e = .returned (.agg #[.slice none 0 0, .int .i64 0, .int .i64 c]) ∧ Below w.heap.size w w' := by
  go_enter Tryd.func23, Tryd.ntmps23
  go_wp2
  exact bodyPost_ret (v := .agg #[.slice none 0 0, .int .i64 0, .int .i64 c]) (by simp [results, Tryd.results23, go_sem]) rfl ⟨rfl, (Below.refl _ _).alloc (Nat.le_refl _) _⟩
end Go.Proofs.YtclpamjgglfljaaDoor

/- The walk of the specification's FrameShut. Written by specshut.py. -/
namespace Go.Proofs.YtclpamjgglfljaaDoor
open Go.RowKit

/-- FrameShut as a plain function -/
def shutF (L : List Fr) (id : Int) : FO :=
  if 400 < L.length then ⟨[], 0, 2⟩
  else if framesB L = false then ⟨[], 0, 1⟩
  else if hereF L id = false then ⟨[], 0, 6⟩
  else ⟨(innerF L id).filter (fun f => !(f.id == id)), id, 0⟩
theorem shutF_size {L : List Fr} {id : Int} (h : 400 < L.length) : shutF L id = ⟨[], 0, 2⟩ := by unfold shutF; rw [if_pos h]
theorem shutF_form {L : List Fr} {id : Int} (h : ¬ 400 < L.length) (h1 : framesB L = false) : shutF L id = ⟨[], 0, 1⟩ := by unfold shutF; rw [if_neg h, if_pos h1]
theorem shutF_none {L : List Fr} {id : Int} (h : ¬ 400 < L.length) (h1 : framesB L = true) (h2 : hereF L id = false) : shutF L id = ⟨[], 0, 6⟩ := by unfold shutF; rw [if_neg h, if_neg (by rw [h1]; decide), if_pos h2]
theorem shutF_ok {L : List Fr} {id : Int} (h : ¬ 400 < L.length) (h1 : framesB L = true) (h2 : hereF L id = true) : shutF L id = ⟨(innerF L id).filter (fun f => !(f.id == id)), id, 0⟩ := by unfold shutF; rw [if_neg h, if_neg (by rw [h1]; decide), if_neg (by rw [h2]; decide)]
theorem own_row_below {w w' : World} {B n sz : Nat} {e : TypeId} {v : Value} {xs : List Value} (h : w.ownsRow B e sz v n xs) (hb : Below w.heap.size w w') : w'.ownsRow B e sz v n xs := ownR_below h hb
set_option maxRecDepth 10000 in
set_option maxHeartbeats 16000000 in
theorem specFrameShut_any (v : Value) (L : List Fr) (B : Nat) (id : Int) (w : World) (hs : SliceF w B v L) (hn : L.length ≤ 1048576) :
    Calls Tryd.prog 20 #[v, .int .i64 id] w fun e w' => ∃ v', e = .returned v' ∧ AnsF w' w.heap.size v' (shutF L id) ∧ Below w.heap.size w w' := by
  have KI : Hid (∀ c W, Calls Tryd.prog 23 #[.int .i64 c] W fun e w' => e = .returned (.agg #[.slice none 0 0, .int .i64 0, .int .i64 c]) ∧ Below W.heap.size W w') := fun c W => specIll9_any c W
  have KR : Hid (∀ W, Below w.heap.size w W → Calls Tryd.prog 24 #[v] W fun e w' => e = .returned (.bool (framesB L)) ∧ Below W.heap.size W w') := fun W hb => specFrames_any v L B W (hs.below hb) hn
  have KA : Hid (∀ W, Below w.heap.size w W → Calls Tryd.prog 40 #[v, .int .i64 id] W fun e w' => e = .returned (.int .i64 (whF L id)) ∧ w' = W) := fun W hb => specAt_any v L B id W (hs.below hb) hn
  have KN : Hid (framesB L = true → ∀ W, Below w.heap.size w W → Calls Tryd.prog 41 #[v, .int .i64 id] W fun e w' => ∃ v', e = .returned v' ∧ w'.ownsRow W.heap.size 54 9 v' (innerF L id).length (frCells (innerF L id)) ∧ Below W.heap.size W w') := fun hL W hb => specInner9_any v L B id W (hs.below hb) (by have := (framesB_parts hL).1; omega) hL
  have HIL : Hid (framesB L = true → (innerF L id).length ≤ 10) := fun hL => Nat.le_trans (List.length_filter_le _ _) (framesB_parts hL).1
  obtain ⟨W0, hW⟩ : ∃ W0, W0 = w.alloc (.cells #[.slice none 0 0, .int .i64 0, .int .i64 0] 31) := ⟨_, rfl⟩
  have hW0 : Hid (W0 = w.alloc (.cells #[.slice none 0 0, .int .i64 0, .int .i64 0] 31)) := hW
  have X0 : Hid (BoxV W0 w.heap.size [.slice none 0 0, .int .i64 0, .int .i64 0]) := by show BoxV _ _ _; rw [hW]; exact boxV_new w [.slice none 0 0, .int .i64 0, .int .i64 0] 31
  have B0 : Hid (Below w.heap.size w W0) := by show Below _ _ _; rw [hW]; exact (Below.refl _ _).alloc (Nat.le_refl _) _
  obtain ⟨p, cap, rfl⟩ : ∃ p cap, v = .slice p L.length cap := by obtain ⟨-, p, c, e, -⟩ := hs; exact ⟨p, c, e⟩
  obtain ⟨i0, hi, hy0, hy1, hy2⟩ := info_parts infoFrame
  clear hW hs
  by_cases h4 : 400 < L.length
  · have q4 : decide ((400 : Int) < (L.length : Int)) = true := by rw [decide_eq_true_iff]; omega
    go_enter Tryd.func20, Tryd.ntmps20
    go_upto_region 1 with fail
    rw [← hW0.out]
    clear hW0
    have HQ : Hid (shutF L id = ⟨[], 0, 2⟩) := by show _ = _; exact shutF_size h4
    go_wp2_with fail
    refine (KI.out 2 _).mono ?_
    rintro e w9 ⟨rfl, hb9⟩
    have X9 : Hid (BoxV w9 w.heap.size [.slice none 0 0, .int .i64 0, .int .i64 0]) := X0.out.below hb9
    have B9 : Hid (Below w.heap.size w w9) := B0.out.trans (hb9.mono B0.out.size)
    clear hb9
    have x0 : w9.cell? ⟨w.heap.size, 0, none⟩ = some (.slice none 0 0) := X9.out.at (i := 0) rfl
    have xf0 : w9.frozen? ⟨w.heap.size, 0, none⟩ = false := X9.out.free (i := 0) rfl
    have x1 : w9.cell? ⟨w.heap.size, 1, none⟩ = some (.int .i64 0) := X9.out.at (i := 1) rfl
    have xf1 : w9.frozen? ⟨w.heap.size, 1, none⟩ = false := X9.out.free (i := 1) rfl
    have x2 : w9.cell? ⟨w.heap.size, 2, none⟩ = some (.int .i64 0) := X9.out.at (i := 2) rfl
    have xf2 : w9.frozen? ⟨w.heap.size, 2, none⟩ = false := X9.out.free (i := 2) rfl
    go_wp2
    exact bodyPost_ret (v := .agg #[.slice none 0 0, .int .i64 0, .int .i64 2]) (by simp [results, Tryd.results20, go_sem, x0, x1, x2]) rfl ⟨_, rfl, ⟨.slice none 0 0, by rw [HQ.out], by rw [HQ.out]; exact sliceF_none _ _⟩, (Below.setCell (Below.setCell (Below.setCell B9.out (Nat.le_refl _) _) (Nat.le_refl _) _) (Nat.le_refl _) _)⟩
  have q4 : decide ((400 : Int) < (L.length : Int)) = false := by rw [decide_eq_false_iff_not]; omega
  go_enter Tryd.func20, Tryd.ntmps20
  go_upto_region 1 with fail
  rw [← hW0.out]
  clear hW0
  go_wp2_with fail
  refine (KR.out _ B0.out).mono ?_
  rintro e w1 ⟨rfl, hb1⟩
  have X1 : Hid (BoxV w1 w.heap.size [.slice none 0 0, .int .i64 0, .int .i64 0]) := X0.out.below hb1
  have B1 : Hid (Below w.heap.size w w1) := B0.out.trans (hb1.mono B0.out.size)
  clear hb1 X0 B0 KR
  cases hfb : framesB L with
  | false =>
    have HQ : Hid (shutF L id = ⟨[], 0, 1⟩) := by show _ = _; exact shutF_form h4 hfb
    go_wp2_with fail
    refine (KI.out 1 _).mono ?_
    rintro e w9 ⟨rfl, hb9⟩
    have X9 : Hid (BoxV w9 w.heap.size [.slice none 0 0, .int .i64 0, .int .i64 0]) := X1.out.below hb9
    have B9 : Hid (Below w.heap.size w w9) := B1.out.trans (hb9.mono B1.out.size)
    clear hb9
    have x0 : w9.cell? ⟨w.heap.size, 0, none⟩ = some (.slice none 0 0) := X9.out.at (i := 0) rfl
    have xf0 : w9.frozen? ⟨w.heap.size, 0, none⟩ = false := X9.out.free (i := 0) rfl
    have x1 : w9.cell? ⟨w.heap.size, 1, none⟩ = some (.int .i64 0) := X9.out.at (i := 1) rfl
    have xf1 : w9.frozen? ⟨w.heap.size, 1, none⟩ = false := X9.out.free (i := 1) rfl
    have x2 : w9.cell? ⟨w.heap.size, 2, none⟩ = some (.int .i64 0) := X9.out.at (i := 2) rfl
    have xf2 : w9.frozen? ⟨w.heap.size, 2, none⟩ = false := X9.out.free (i := 2) rfl
    go_wp2
    exact bodyPost_ret (v := .agg #[.slice none 0 0, .int .i64 0, .int .i64 1]) (by simp [results, Tryd.results20, go_sem, x0, x1, x2]) rfl ⟨_, rfl, ⟨.slice none 0 0, by rw [HQ.out], by rw [HQ.out]; exact sliceF_none _ _⟩, (Below.setCell (Below.setCell (Below.setCell B9.out (Nat.le_refl _) _) (Nat.le_refl _) _) (Nat.le_refl _) _)⟩
  | true =>
  go_wp2_with fail
  refine (KA.out _ B1.out).mono ?_
  rintro e w2 ⟨rfl, e2⟩
  have e3 := e2.symm
  subst e3
  clear KA
  have hwd : hereF L id = decide (0 ≤ whF L id) := rfl
  cases hh : hereF L id with
  | false =>
    have hw : whF L id < 0 := by rw [hwd, decide_eq_false_iff_not] at hh; omega
    have HQ0 : shutF L id = ⟨[], 0, 6⟩ := shutF_none h4 hfb hh
    clear hh hwd
    generalize whF L id = k at *
    have HQ : Hid (shutF L id = ⟨[], 0, 6⟩) := by show _ = _; exact HQ0
    go_wp2_with fail
    refine (KI.out 6 _).mono ?_
    rintro e w9 ⟨rfl, hb9⟩
    have X9 : Hid (BoxV w9 w.heap.size [.slice none 0 0, .int .i64 0, .int .i64 0]) := X1.out.below hb9
    have B9 : Hid (Below w.heap.size w w9) := B1.out.trans (hb9.mono B1.out.size)
    clear hb9
    have x0 : w9.cell? ⟨w.heap.size, 0, none⟩ = some (.slice none 0 0) := X9.out.at (i := 0) rfl
    have xf0 : w9.frozen? ⟨w.heap.size, 0, none⟩ = false := X9.out.free (i := 0) rfl
    have x1 : w9.cell? ⟨w.heap.size, 1, none⟩ = some (.int .i64 0) := X9.out.at (i := 1) rfl
    have xf1 : w9.frozen? ⟨w.heap.size, 1, none⟩ = false := X9.out.free (i := 1) rfl
    have x2 : w9.cell? ⟨w.heap.size, 2, none⟩ = some (.int .i64 0) := X9.out.at (i := 2) rfl
    have xf2 : w9.frozen? ⟨w.heap.size, 2, none⟩ = false := X9.out.free (i := 2) rfl
    go_wp2
    exact bodyPost_ret (v := .agg #[.slice none 0 0, .int .i64 0, .int .i64 6]) (by simp [results, Tryd.results20, go_sem, x0, x1, x2]) rfl ⟨_, rfl, ⟨.slice none 0 0, by rw [HQ.out], by rw [HQ.out]; exact sliceF_none _ _⟩, (Below.setCell (Below.setCell (Below.setCell B9.out (Nat.le_refl _) _) (Nat.le_refl _) _) (Nat.le_refl _) _)⟩
  | true =>
  have hw : ¬ (whF L id < 0) := by rw [hwd, decide_eq_true_iff] at hh; omega
  have qw : decide (whF L id < 0) = false := by rw [decide_eq_false_iff_not]; exact hw
  have HQ : Hid (shutF L id = ⟨(innerF L id).filter (fun f => !(f.id == id)), id, 0⟩) := shutF_ok h4 hfb hh
  have KN1 : Hid (∀ W, Below w.heap.size w W → Calls Tryd.prog 41 #[.slice p L.length cap, .int .i64 id] W fun e w' => ∃ v', e = .returned v' ∧ w'.ownsRow W.heap.size 54 9 v' (innerF L id).length (frCells (innerF L id)) ∧ Below W.heap.size W w') := KN.out hfb
  have hil := HIL.out hfb
  have O0 : Hid ((w1.alloc (.cells #[] 54)).ownsRow w1.heap.size 54 9 (.slice (some ⟨w1.heap.size, 0, none⟩) 0 0) 0 (frCells [])) := World.ownsRow_made w1 #[] 0 (Nat.le_refl _) (Nat.zero_le _) rfl
  have AA : Hid (Below w1.heap.size w1 (w1.alloc (.cells #[] 54))) := (Below.refl _ _).alloc (Nat.le_refl _) _
  clear hh hwd hw KN HIL KI
  generalize whF L id = wh at *
  generalize innerF L id = M at *
  go_wp2_with fail
  refine (KN1.out _ (B1.out.trans (AA.out.mono B1.out.size))).mono ?_
  rintro e w3 ⟨mv, rfl, om, hb3⟩
  have S3 := sliceF_of_own om
  have O3 : Hid (w3.ownsRow w1.heap.size 54 9 (.slice (some ⟨w1.heap.size, 0, none⟩) 0 0) 0 (frCells [])) := own_row_below O0.out hb3
  have A3 : Hid (Below w1.heap.size w1 w3) := AA.out.trans (hb3.mono AA.out.size)
  obtain ⟨⟨q, mc, rfl, hg⟩, -⟩ := S3
  have HG : Hid (0 < M.length → ∃ g, q = some ⟨g, 0, none⟩ ∧ w1.heap.size < g ∧ g < w3.heap.size ∧ ∀ j, j < M.length → ∀ o, o < 9 → w3.cell? ⟨g, j * 9 + o, none⟩ = some (frC (atF M j) o)) := fun h0 => by
    obtain ⟨g, e, hgb, hgw, hc⟩ := hg h0
    exact ⟨g, e, by rw [World.size_alloc] at hgb; omega, hgw, fun j hj o ho => (hc j hj o ho).1⟩
  have HSN : Hid (∀ (Y : List Fr) (c : Fr), frCells Y ++ frVals c = frCells (Y ++ [c])) := fun Y c => frCells_snoc Y c
  obtain ⟨P, hP⟩ : ∃ P : Fr → Bool, P = fun f => !(f.id == id) := ⟨_, rfl⟩
  have HPP : Hid (∀ y : Fr, P y = !(y.id == id)) := fun y => by rw [hP]
  rw [← hP] at HQ
  have HST : Hid (∀ k, k < M.length → (M.take (k + 1)).filter P = if P (atF M k) = true then (M.take k).filter P ++ [atF M k] else (M.take k).filter P) := fun k hk => filt_step hk
  have HLE : Hid (∀ k, ((M.take k).filter P).length ≤ k) := fun k => Nat.le_trans (List.length_filter_le _ _) (by rw [List.length_take]; omega)
  have HC3 : Hid (∀ g, q = some ⟨g, 0, none⟩ → 0 < M.length → ((.slice (some ⟨w1.heap.size, 0, none⟩) 0 0 : Value).ownBlock ≠ some g ∧ g < w3.heap.size ∧ ∀ j, j < M.length → ∀ o, o < 9 → w3.cell? ⟨g, j * 9 + o, none⟩ = some (frC (atF M j) o))) := fun g e h0 => by
    obtain ⟨g', e', h1, h2, h3⟩ := HG.out h0
    have : g' = g := by rw [e'] at e; injection e with e; injection e
    subst this
    exact ⟨fun e => by have h5 : w1.heap.size = g' := Option.some.inj e; omega, h2, h3⟩
  have O33 : Hid (w3.ownsRow w1.heap.size 54 9 (.slice (some ⟨w1.heap.size, 0, none⟩) 0 0) ((M.take 0).filter P).length (frCells ((M.take 0).filter P))) := by show World.ownsRow _ _ _ _ _ _ _; rw [List.take_zero]; exact O3.out
  clear hg om hb3 AA O0 O3 hP KN1 hfb
  go_wp2
  go_loopw [5, 7] (fun stv i wr => ∃ (k : Nat) (sl : Value), sl = stv ∧ k ≤ M.length ∧ i = .int .i64 k ∧ Hid (wr.ownsRow w1.heap.size 54 9 sl ((M.take k).filter P).length (frCells ((M.take k).filter P))) ∧ Hid (Below w1.heap.size w1 wr) ∧ Hid (∀ g, q = some ⟨g, 0, none⟩ → 0 < M.length → (sl.ownBlock ≠ some g ∧ g < wr.heap.size ∧ ∀ j, j < M.length → ∀ o, o < 9 → wr.cell? ⟨g, j * 9 + o, none⟩ = some (frC (atF M j) o)))) (fun _ i _ => M.length - (intOf i).toNat)
  case atStart => exact ⟨0, _, rfl, Nat.zero_le _, rfl, O33, A3, HC3⟩
  case round =>
    obtain ⟨k, sl, rfl, hk, rfl, HO, HB, HC⟩ := hrel
    have hws : w1.heap.size ≤ wr.heap.size := HB.out.size
    by_cases hlt : k < M.length
    · obtain ⟨g, rfl, -, -, -⟩ := HG.out (by omega)
      obtain ⟨hne, hgw, hc⟩ := HC.out g rfl (by omega)
      have k0 : (0 : Int) ≤ k := by omega
      have k1 : (k : Int) < M.length := by omega
      have c0 : wr.cell? ⟨g, k * 9, none⟩ = some (.int .i64 (atF M k).id) := hc k hlt 0 (by omega)
      have c1 : wr.cell? ⟨g, k * 9 + 1, none⟩ = some (.int .i64 (atF M k).pa) := hc k hlt 1 (by omega)
      have c2 : wr.cell? ⟨g, k * 9 + 2, none⟩ = some (.string (atF M k).sc) := hc k hlt 2 (by omega)
      have c3 : wr.cell? ⟨g, k * 9 + 3, none⟩ = some (.string (atF M k).ho) := hc k hlt 3 (by omega)
      have c4 : wr.cell? ⟨g, k * 9 + 4, none⟩ = some (.int .i64 (atF M k).po) := hc k hlt 4 (by omega)
      have c5 : wr.cell? ⟨g, k * 9 + 5, none⟩ = some (.string (atF M k).pt) := hc k hlt 5 (by omega)
      have c6 : wr.cell? ⟨g, k * 9 + 6, none⟩ = some (.bool (atF M k).sb) := hc k hlt 6 (by omega)
      have c7 : wr.cell? ⟨g, k * 9 + 7, none⟩ = some (.bool (atF M k).fl) := hc k hlt 7 (by omega)
      have c8 : wr.cell? ⟨g, k * 9 + 8, none⟩ = some (.int .i64 (atF M k).tc) := hc k hlt 8 (by omega)
      have HYes : Hid (((atF M k).id == id) = true → (M.take (k + 1)).filter P = (M.take k).filter P) := fun h => by rw [HST.out k hlt, if_neg (by rw [HPP.out, h]; decide)]
      have HNo : Hid (((atF M k).id == id) = false → (M.take (k + 1)).filter P = (M.take k).filter P ++ [atF M k]) := fun h => by rw [HST.out k hlt, if_pos (by rw [HPP.out, h]; rfl)]
      have hle := HLE.out k
      have HCC : Hid (∀ j, j < M.length → ∀ o, o < 9 → wr.cell? ⟨g, j * 9 + o, none⟩ = some (frC (atF M j) o)) := hc
      clear hc
      generalize atF M k = y at *
      generalize hY2 : (M.take (k + 1)).filter P = Y2 at *
      generalize (M.take k).filter P = Y at *
      generalize hm : Y.length = m at *
      have HM : Hid (Y.length = m) := hm
      clear hm
      obtain ⟨yid, ypa, ysc, yho, ypo, ypt, ysb, yfl, ytc⟩ := y
      dsimp only at *
      cases hct : (yid == id) with
      | true =>
        have q1 : (yid != id) = false := by unfold bne; rw [hct]; rfl
        have O5 : Hid (wr.ownsRow w1.heap.size 54 9 sl Y2.length (frCells Y2)) := by
          show World.ownsRow _ _ _ _ _ _ _
          rw [HYes.out hct, HM.out]
          exact HO.out
        clear HYes HNo HO HCC hct c1 c2 c3 c4 c5 c6 c7 c8
        go_wp2
        go_roundw
        case rel => exact ⟨k + 1, _, rfl, by omega, by go_num, by rw [hY2]; exact O5, HB, HC⟩
        case measure => simp [intOf]; omega
      | false =>
        have q1 : (yid != id) = true := by unfold bne; rw [hct]; rfl
        have HY2 : Hid (Y2 = Y ++ [⟨yid, ypa, ysc, yho, ypo, ypt, ysb, yfl, ytc⟩]) := HNo.out hct
        clear HYes HNo hct HC
        go_wp2_with (at_builtin; go_must (refine wpList_append_own_at _ rfl _ _ 29 rfl w1.heap.size 54 i0 (.agg #[.int .i64 0, .int .i64 0, .string ⟨#[]⟩, .string ⟨#[]⟩, .int .i64 0, .string ⟨#[]⟩, .bool false, .bool false, .int .i64 0]) 9 88 Tryd.underlying29 hi hy0 hy1 hy2 rfl (by decide) _ _ _ rfl (HO.out.alloc _) ⟨wr.heap.size, 0, none⟩ 1 1 (frVals ⟨yid, ypa, ysc, yho, ypo, ypt, ysb, yfl, ytc⟩) rfl rfl (cell_Fr _ ⟨yid, ypa, ysc, yho, ypo, ypt, ysb, yfl, ytc⟩ _) (one_Fr ⟨yid, ypa, ysc, yho, ypo, ypt, ysb, yfl, ytc⟩) (by unfold maxLen; omega) (by omega) (by simp; omega) ?_))
        intro v1 w4 ho1 hg1 hn1 hob
        have hb4 : Below w1.heap.size w1 w4 := (HB.out.alloc HB.out.size _).grown hg1 (Nat.le_trans HB.out.size (by simp)) (fun j hj => own_base HO.out j hj)
        have O5 : Hid (w4.ownsRow w1.heap.size 54 9 v1 Y2.length (frCells Y2)) := by
          show World.ownsRow _ _ _ _ _ _ _
          rw [HY2.out, ← HSN.out, List.length_append, HM.out]
          exact ho1
        have B4 : Hid (Below w1.heap.size w1 w4) := hb4
        have HC4 : Hid (∀ g', (some ⟨g, 0, none⟩ : Option Addr) = some ⟨g', 0, none⟩ → 0 < M.length → (v1.ownBlock ≠ some g' ∧ g' < w4.heap.size ∧ ∀ j, j < M.length → ∀ o, o < 9 → w4.cell? ⟨g', j * 9 + o, none⟩ = some (frC (atF M j) o))) := fun g' e _ => by
          have : g = g' := by injection e with e; injection e
          subst this
          have hz := hg1.size
          rw [World.size_alloc] at hz
          refine ⟨?_, by omega, fun j hj o ho => ?_⟩
          · rcases hob with h | h
            · rw [h]; exact hne
            · rw [h]; intro e; have h5 : wr.heap.size + 1 = g := Option.some.inj e; omega
          · rw [World.cell?_of_block (a := ⟨g, j * 9 + o, none⟩) (hg1.block g (by rw [World.size_alloc]; omega) (fun e => hne e.symm)), World.cell?_of_block (a := ⟨g, j * 9 + o, none⟩) (Below.block ((Below.refl wr.heap.size wr).alloc (Nat.le_refl _) _) g hgw)]
            exact HCC.out j hj o ho
        clear ho1 hg1 hn1 hb4 hob HCC c0 c1 c2 c3 c4 c5 c6 c7 c8 HO
        go_wp2
        go_roundw
        case rel => exact ⟨k + 1, _, rfl, by omega, by go_num, by rw [hY2]; exact O5, B4, HC4⟩
        case measure => simp [intOf]; omega
    · have hkL : k = M.length := by omega
      subst hkL
      have S7 : Hid (SliceF wr w1.heap.size sl (M.filter P)) := by
        have h := HO.out
        rw [List.take_length] at h
        exact sliceF_of_own h
      have X7 : Hid (BoxV wr w.heap.size [.slice none 0 0, .int .i64 0, .int .i64 0]) := X1.out.below HB.out
      have B7 : Hid (Below w.heap.size w wr) := B1.out.trans (HB.out.mono B1.out.size)
      have hlt7 : w.heap.size < w1.heap.size := X1.out.1
      obtain ⟨pq, cq, hv7⟩ : ∃ pq cq, sl = .slice pq (M.filter P).length cq := by obtain ⟨⟨p, c, e, -⟩, -⟩ := S7.out; exact ⟨p, c, e⟩
      clear HO HC HG
      generalize hm : (M.filter P).length = m at *
      subst hv7
      have x0 : wr.cell? ⟨w.heap.size, 0, none⟩ = some (.slice none 0 0) := X7.out.at (i := 0) rfl
      have xf0 : wr.frozen? ⟨w.heap.size, 0, none⟩ = false := X7.out.free (i := 0) rfl
      have x1 : wr.cell? ⟨w.heap.size, 1, none⟩ = some (.int .i64 0) := X7.out.at (i := 1) rfl
      have xf1 : wr.frozen? ⟨w.heap.size, 1, none⟩ = false := X7.out.free (i := 1) rfl
      have x2 : wr.cell? ⟨w.heap.size, 2, none⟩ = some (.int .i64 0) := X7.out.at (i := 2) rfl
      have xf2 : wr.frozen? ⟨w.heap.size, 2, none⟩ = false := X7.out.free (i := 2) rfl
      go_wp2
      refine bodyPost_ret (v := .agg #[.slice pq m cq, .int .i64 id, .int .i64 0]) (by simp [results, Tryd.results20, go_sem, x0, x1, x2]) rfl ⟨_, rfl, ⟨.slice pq m cq, by rw [HQ.out], by rw [HQ.out]; exact (S7.out.store3 hlt7).mono (by omega)⟩, (Below.setCell (Below.setCell (Below.setCell B7.out (Nat.le_refl _) _) (Nat.le_refl _) _) (Nat.le_refl _) _)⟩
end Go.Proofs.YtclpamjgglfljaaDoor

/- The walk of the program's treeOf, and of the maker of the iterator. -/
namespace Go.Proofs.YtclpamjgglfljaaDoor
open Go.RowKit Go.Maps

set_option maxRecDepth 10000 in
set_option maxHeartbeats 8000000 in
theorem treeOf_any (v : Value) (L : List Fr) (B : Nat) (w : World) (hs : SliceF w B v L) (hL : framesB L = true) :
    Calls Tryd.prog 58 #[v] w fun e w' => ∃ bm, e = .returned (.map (some bm)) ∧ w.heap.size ≤ bm ∧ TreeIs w' bm 10 L ∧ Below w.heap.size w w' := by
  have h10 := (framesB_parts hL).1
  have hid := ids_of hL
  obtain ⟨⟨p, cap, rfl, hg⟩, -⟩ := hs
  have HG : Hid (0 < L.length → ∃ g, p = some ⟨g, 0, none⟩ ∧ g < w.heap.size ∧ ∀ j, j < L.length → ∀ o, o < 9 → w.cell? ⟨g, j * 9 + o, none⟩ = some (frC (atF L j) o)) := fun h0 => by
    obtain ⟨g, e, -, hgw, hc⟩ := hg h0
    exact ⟨g, e, hgw, fun j hj o ho => (hc j hj o ho).1⟩
  have HI : Hid (idsF L) := hid
  have hmm := @run_makeMap Tryd.prog
  have M2 : Hid (TreeIs (w.alloc (.map #[] 0)) w.heap.size 0 (L.take 0)) := tree_made w
  have B2 : Hid (Below w.heap.size w (w.alloc (.map #[] 0))) := (Below.refl _ _).alloc (Nat.le_refl _) _
  clear hg hid hL
  go_enter Tryd.func58, Tryd.ntmps58
  go_wp2
  clear hmm
  generalize hbm : w.heap.size = bm at *
  go_loopw [9] (fun i wr => ∃ k : Nat, k ≤ L.length ∧ i = .int .i64 k ∧ Hid (TreeIs wr bm k (L.take k)) ∧ Hid (Below bm w wr)) (fun i _ => L.length - (intOf i).toNat)
  case atStart => exact ⟨0, Nat.zero_le _, rfl, M2, B2⟩
  case round =>
    obtain ⟨k, hk, rfl, HM, HB⟩ := hrel
    by_cases hlt : k < L.length
    · obtain ⟨g, rfl, hgw, hc⟩ := HG.out (by omega)
      have hx : ∀ o, o < 9 → wr.cell? ⟨g, k * 9 + o, none⟩ = some (frC (atF L k) o) := fun o ho => by rw [HB.out.cell (p := ⟨g, k * 9 + o, none⟩) hgw]; exact hc k hlt o ho
      have c0 : wr.cell? ⟨g, k * 9, none⟩ = some (.int .i64 (atF L k).id) := hx 0 (by omega)
      have c1 : wr.cell? ⟨g, k * 9 + 1, none⟩ = some (.int .i64 (atF L k).pa) := hx 1 (by omega)
      have c2 : wr.cell? ⟨g, k * 9 + 2, none⟩ = some (.string (atF L k).sc) := hx 2 (by omega)
      have c3 : wr.cell? ⟨g, k * 9 + 3, none⟩ = some (.string (atF L k).ho) := hx 3 (by omega)
      have c4 : wr.cell? ⟨g, k * 9 + 4, none⟩ = some (.int .i64 (atF L k).po) := hx 4 (by omega)
      have c5 : wr.cell? ⟨g, k * 9 + 5, none⟩ = some (.string (atF L k).pt) := hx 5 (by omega)
      have c6 : wr.cell? ⟨g, k * 9 + 6, none⟩ = some (.bool (atF L k).sb) := hx 6 (by omega)
      have c7 : wr.cell? ⟨g, k * 9 + 7, none⟩ = some (.bool (atF L k).fl) := hx 7 (by omega)
      have c8 : wr.cell? ⟨g, k * 9 + 8, none⟩ = some (.int .i64 (atF L k).tc) := hx 8 (by omega)
      have k0 : (0 : Int) ≤ k := by omega
      have k1 : (k : Int) < L.length := by omega
      obtain ⟨D, hown, hD⟩ := HM.out
      have hkey := keyOf9 (id := (atF L k).id) (by have := (HI.out k hlt).1; omega) (by have := (HI.out k hlt).1; omega)
      have hP : ∀ w', w'.ownsMap Tryd.prog 2 brElem bm (k + 1) (D.put (.int .i64 (atF L k).id) (.held (atF L k, (atF L k).pa))) → TreeIs w' bm (k + 1) (L.take (k + 1)) := fun w' h => tree_put HI.out hlt hown.isMap hD h
      have HP : Hid (∀ w', w'.ownsMap Tryd.prog 2 brElem bm (k + 1) (D.put (.int .i64 (atF L k).id) (.held (atF L k, (atF L k).pa))) → TreeIs w' bm (k + 1) (L.take (k + 1))) := hP
      have HO : Hid (wr.ownsMap Tryd.prog 2 brElem bm k D) := hown
      clear hc hx hD HM hown hP HG HI
      generalize atF L k = y at *
      obtain ⟨yid, ypa, ysc, yho, ypo, ypt, ysb, yfl, ytc⟩ := y
      dsimp only at *
      have hel : brElem (.agg #[.int .i64 yid, .int .i64 ypa, .string ysc, .string yho, .int .i64 ypo, .string ypt, .bool ysb, .bool yfl, .int .i64 ytc, .int .i64 ypa]) = some (.held (⟨yid, ypa, ysc, yho, ypo, ypt, ysb, yfl, ytc⟩, ypa), []) := rfl
      go_wp2_with (at_mapUpdate; go_must (refine wpList_mapUpdate_own _ rfl _ _ _ 79 rfl 2 98 int9Keyed Tryd.underlying79 _ bm k D rfl (HO.out.alloc _) (by unfold maxLen; omega) _ _ _ rfl rfl hkey _ [] hel ?_); intro w3 hown3 hg3)
      have B3 : Hid (Below bm w w3) := (HB.out.alloc (by have := HB.out.size; omega) _).grown hg3 (by have := HB.out.size; simp; omega) (fun j hj => by have := Option.some.inj hj; omega)
      have M3 : Hid (TreeIs w3 bm (k + 1) (L.take (k + 1))) := HP.out _ hown3
      clear hown3 hg3 HP HO
      go_wp2
      go_roundw
      case rel => exact ⟨k + 1, by omega, by go_num, M3, B3⟩
      case measure => simp [intOf]; omega
    · obtain rfl : k = L.length := by omega
      have M4 : Hid (TreeIs wr bm 10 L) := by
        have := HM.out
        rw [List.take_length] at this
        exact this.mono h10
      go_wp2
      go_ret
      exact ⟨bm, rfl, Nat.le_of_eq hbm, M4.out, by rw [hbm]; exact HB.out⟩
set_option maxRecDepth 10000 in
theorem outward_any (bm : Nat) (id : Int) (w : World) :
    Calls Tryd.prog 59 #[.map (some bm), .int .i64 id] w fun e w' => e = .returned (.func (.func 76) #[] #[.pointer (some ⟨w.heap.size, 0, none⟩), .pointer (some ⟨w.heap.size + 1, 0, none⟩)]) ∧ w' = (w.alloc (.cells #[.map (some bm)] 79)).alloc (.cells #[.int .i64 id] 2) := by
  go_enter Tryd.func59, Tryd.ntmps59
  go_wp2
  go_ret
  exact ⟨rfl, rfl⟩
end Go.Proofs.YtclpamjgglfljaaDoor

/- The contract of the program's iterator: those around a frame, one by one, from it outward. Written by impltree1.py. -/
namespace Go.Proofs.YtclpamjgglfljaaDoor
open Go.RowKit Go.Maps Go.Shelf
attribute [local go_sem] Oper.semAt_some

/-- what a round keeps: all that lay below n₁ but for one block, and all cells -/
def KpF (row : Option Nat) (n₁ : Nat) (A B : World) : Prop := A.heap.size ≤ B.heap.size ∧ ∀ (k : Nat) (o : Obj), some k ≠ row → A.heap[k]? = some o → (k < n₁ ∨ o.isCells = true) → B.heap[k]? = some o
theorem KpF.refl (row : Option Nat) (n₁ : Nat) (A : World) : KpF row n₁ A A := ⟨Nat.le_refl _, fun _ _ _ h _ => h⟩
theorem KpF.trans {row : Option Nat} {n₁ : Nat} {A B C : World} (h : KpF row n₁ A B) (k : KpF row n₁ B C) : KpF row n₁ A C :=
  ⟨Nat.le_trans h.1 k.1, fun j o hj hA hor => k.2 j o hj (h.2 j o hj hA hor) hor⟩
theorem KpF.of_below {row : Option Nat} {n₁ : Nat} {A B : World} (h : Below A.heap.size A B) : KpF row n₁ A B :=
  ⟨h.size, fun k o _ hA _ => by rw [h.block k (Array.getElem?_eq_some_iff.1 hA).1]; exact hA⟩
theorem KpF.put {row : Option Nat} {n₁ n₂ : Nat} (hn : n₁ ≤ n₂) (W : World) (l : Nat) (o o' : Obj) (hl : n₂ ≤ l) (h : W.heap[l]? = some o) (hc : o.isCells = false) (_ : o.isWalk = false) : KpF row n₁ W (W.putObj l o') :=
  ⟨by simp, fun k o2 _ h2 hor => by
    by_cases e : k = l
    · subst e
      rw [h] at h2; cases h2
      rcases hor with hor | hor
      · omega
      · rw [hc] at hor; cases hor
    · rw [World.putObj_heap_other (fun e' => e e')]; exact h2⟩
theorem KpF.cell {row : Option Nat} {n₁ : Nat} {A B : World} (h : KpF row n₁ A B) {a : Addr} {v : Value} (hv : A.cell? a = some v) (hr : some a.block ≠ row) : B.cell? a = some v := by
  obtain ⟨o, ho, hc⟩ := cells_of_cell hv
  exact (World.cell?_of_block ((h.2 _ o hr ho (.inr hc)).trans ho.symm)).trans hv
theorem KpF.tree {row : Option Nat} {n₁ : Nat} {A B : World} (h : KpF row n₁ A B) {bm N : Nat} {L : List Fr} (hm : TreeIs A bm N L) (hb : bm < n₁) (hr : some bm ≠ row) : TreeIs B bm N L :=
  hm.of_block (by
    have hlt := hm.lt
    rw [h.2 bm A.heap[bm] hr (Array.getElem?_eq_getElem hlt) (.inl hb), Array.getElem?_eq_getElem hlt])
/-- how many are left -/
def leftF (L : List Fr) (b ok : Value) (w : World) : Nat :=
  match b, ok with
  | .pointer (some a), .bool true => (match w.cell? ⟨a.block, 0, none⟩ with
    | some (.int _ id) => (whF L id).toNat + 1
    | _ => 0)
  | _, _ => 0
theorem leftF_is {L : List Fr} {bb : Nat} {w : World} {id : Int} (h : w.cell? ⟨bb, 0, none⟩ = some (.int .i64 id)) : leftF L (.pointer (some ⟨bb, 0, none⟩)) (.bool true) w = (whF L id).toNat + 1 := by
  unfold leftF; simp only [h]
theorem leftF_end (L : List Fr) (b : Value) (w : World) : leftF L b (.bool false) w = 0 := by
  cases b <;> simp [leftF]
set_option maxRecDepth 100000 in
set_option maxHeartbeats 8000000 in
theorem outward1_in (n : Nat) (hn : 1 ≤ n) (l bt bi bm n₁ : Nat) (row : Option Nat) (L : List Fr) (hL : framesB L = true) (id : Int) (i1 : -9223372036854775808 ≤ id) (i2 : id ≤ 9223372036854775807) (J Jx : List Fr → World → Prop)
    (W : World) (hJ : AbidesFrom W.heap.size J)
    (hY : ∀ pre x W1, J pre W1 → pre.length < 11 → uF x = true → YieldAt Fence.wide (n - 1) Tryd.prog l #[frV x] W1 fun e W' =>
      (e = .returned (.bool true) ∧ J (pre ++ [x]) W' ∧ KpF row n₁ W1 W') ∨ (e = .returned (.bool false) ∧ Jx (pre ++ [x]) W'))
    (ht : W.cell? ⟨bt, 0, none⟩ = some (.map (some bm))) (hi : W.cell? ⟨bi, 0, none⟩ = some (.int .i64 id)) (hm : TreeIs W bm 10 L) (hbm : bm < n₁) (hbt : bt < n₁) (r1 : some bm ≠ row) (r2 : some bt ≠ row) (hn₁ : n₁ ≤ W.heap.size) (hrow : ∀ r, row = some r → r < n₁) (h0 : J [] W) :
    CallsIn Fence.wide n Tryd.prog 76 #[.func (.yield l) #[] #[], .pointer (some ⟨bt, 0, none⟩), .pointer (some ⟨bi, 0, none⟩)] W fun e W' => (∃ v, e = .returned v) ∧
      ((∃ ys, ys = wayF L id ∧ J ys W') ∨ (∃ pre, pre <+: wayF L id ∧ Jx pre W')) := by
  obtain ⟨D, hown, hD⟩ := hm
  have HX : Hid (∀ x i, D.atKey (.int .i64 id) (.held (frNone, 0)) = .held (x, i) → hereF L id = true → x = getF L id ∧ i = (getF L id).pa) := fun x i h1 h2 => by
    rw [(hD id).2 h2] at h1
    injection h1 with h1
    injection h1 with h1 h3
    exact ⟨h1.symm, h3.symm⟩
  have HH : Hid (Maps.has D (.int .i64 id) = hereF L id) := (hD id).1
  have HO : Hid (W.ownsMap Tryd.prog 2 brElem bm 10 D) := hown
  have HM : Hid (TreeIs W bm 10 L) := ⟨D, hown, hD⟩
  have hkey := keyOf9 (id := id) i1 i2
  have HT : Hid (W.cell? ⟨bt, 0, none⟩ = some (.map (some bm))) := ht
  have HJ : Hid (∀ s A o, W.heap.size ≤ A.heap.size → J s A → J s (A.alloc o)) := fun s A o _ h => hJ s A _ none h (World.grownBy_alloc A o none) (fun r e => by cases e)
  have hlen : L.length ≤ 10 := (framesB_parts hL).1
  have HL : Hid (framesB L = true) := hL
  have HJ0 : Hid (J [] W) := h0
  have HY : Hid (∀ pre x W1, J pre W1 → pre.length < 11 → uF x = true → YieldAt Fence.wide (n - 1) Tryd.prog l #[frV x] W1 fun e W' => (e = .returned (.bool true) ∧ J (pre ++ [x]) W' ∧ KpF row n₁ W1 W') ∨ (e = .returned (.bool false) ∧ Jx (pre ++ [x]) W')) := hY
  have HR : Hid ((some bm ≠ row ∧ some bt ≠ row) ∧ ∀ r, row = some r → r < n₁) := ⟨⟨r1, r2⟩, hrow⟩
  have HID : Hid (idsF L) := ids_of hL
  clear hown hD hY h0 hJ hL r1 r2 hrow
  refine callsIn_of_wp Tryd.func76 rfl trivial ?_ rfl
  simp only [Tryd.ntmps76, List.size_toArray, List.length_cons, List.length_nil, Nat.reduceAdd, Nat.reduceSub, Array.replicate_succ, Array.replicate_zero, List.push_toArray, List.append_toArray, List.nil_append, List.cons_append]
  gi_wp2_with (gi_at_lookup; refine wpListIn_lookup_own_ok _ rfl _ _ 79 rfl 2 98 int9Keyed Tryd.underlying79 brElem (Tryd.zeroValue98 _) (.held (frNone, 0)) [] rfl bm 10 D rfl HO.out _ _ rfl hkey ?_; intro v ps hv; obtain ⟨x, i, rfl, hc⟩ := brElem_inv hv; have hx := HX.out x i (congrArg Prod.fst hc); have HXX : Hid (hereF L id = true → x = getF L id ∧ i = (getF L id).pa) := hx; clear hc hv hx; obtain ⟨xid, xpa, xsc, xho, xpo, xpt, xsb, xfl, xtc⟩ := x; unfold brV; dsimp only; rw [HH.out])
  clear HX HH HO ht
  gi_loopw [4, 5] (fun b ok wr => ∃ (bb : Nat) (cid : Int) (pre : List Fr) (x : Fr) (i : Int), b = .pointer (some ⟨bb, 0, none⟩) ∧ ok = .bool (hereF L cid) ∧ Hid (n₁ ≤ bb) ∧
      Hid (∀ o v, [.int .i64 (x).id, .int .i64 (x).pa, .string (x).sc, .string (x).ho, .int .i64 (x).po, .string (x).pt, .bool (x).sb, .bool (x).fl, .int .i64 (x).tc, .int .i64 i][o]? = some v → wr.cell? ⟨bb, o, none⟩ = some v) ∧ Hid (hereF L cid = true → x = getF L cid ∧ i = (getF L cid).pa) ∧ Hid (wayF L id = pre ++ wayF L cid) ∧ Hid (J pre wr) ∧ Hid (KpF row n₁ W wr))
    (fun b ok wr => leftF L b ok wr)
  case atStart =>
    exact ⟨W.heap.size, id, [], ⟨xid, xpa, xsc, xho, xpo, xpt, xsb, xfl, xtc⟩, i, rfl, rfl, hn₁, fun o v h => by rw [World.cell?_alloc_new]; simpa using h, HXX, rfl, HJ.out _ _ _ (Nat.le_refl _) HJ0.out, KpF.of_below ((Below.refl _ _).alloc (Nat.le_refl _) _)⟩
  case round =>
    obtain ⟨bb, cid, pre, x, i, rfl, rfl, hbb, HC, HXX, HW, HJs, HK⟩ := hrel
    cases hh : hereF L cid with
    | false =>
      have HE : Hid (pre = wayF L id) := by show pre = _; rw [HW.out, wayF_none hh, List.append_nil]
      clear HXX HC
      gi_wp2
      go_end0
      exact ⟨⟨_, rfl⟩, .inl ⟨pre, HE.out, HJs.out⟩⟩
    | true =>
      obtain ⟨e1, e2⟩ := HXX.out hh
      subst e1 e2
      have hway := wayF_here HL.out hh
      have hpl : pre.length < 11 := by
        have h1 := wayF_len (L := L) id
        rw [HW.out, hway] at h1
        simp only [List.length_append, List.length_cons] at h1
        omega
      have HP : Hid (pre ++ [getF L cid] <+: wayF L id) := ⟨wayF L (getF L cid).pa, by rw [HW.out, hway]; simp⟩
      have HN : Hid (wayF L id = (pre ++ [getF L cid]) ++ wayF L (getF L cid).pa) := by show wayF L id = _; rw [HW.out, hway]; simp
      obtain ⟨k, hk, ew, eg, ei⟩ := here_wh hh
      have hkx : (getF L cid).id = cid := by rw [eg]; exact ei
      have HLT : Hid (whF L (getF L cid).pa < whF L (getF L cid).id) := by show _ < _; rw [hkx]; exact parent_less HL.out hh
      have hpar : -9223372036854775808 ≤ (getF L cid).pa ∧ (getF L cid).pa ≤ 9223372036854775807 := by
        rw [eg]
        have hok := (framesB_parts HL.out).2 k hk
        unfold okF holdF at hok
        simp only [Bool.and_eq_true, Bool.or_eq_true, beq_iff_eq, decide_eq_true_eq] at hok
        rcases hok.2 with h | h
        · rw [h]; omega
        · rcases whF_cases (L.take k) (atF L k).pa with ⟨j, hj, -, e1, -⟩ | ⟨e, -⟩
          · rw [List.length_take] at hj
            rw [atF_take (by omega) (by omega)] at e1
            have := (HID.out j (by omega)).1
            omega
          · omega
      have hu : uF (getF L cid) = true := by
        rw [eg]
        have hok := (framesB_parts HL.out).2 k hk
        unfold okF frB at hok
        simp only [Bool.and_eq_true] at hok
        exact hok.1.1.1.1.2
      have hkey2 := keyOf9 (id := (getF L cid).pa) hpar.1 hpar.2
      obtain ⟨fn, tmps, assign, body, hy, hR⟩ := HY.out pre (getF L cid) wr HJs.out hpl hu
      unfold frV at hy
      (try dsimp only at hy)
      have c0 : wr.cell? ⟨bb, 0, none⟩ = some (.int .i64 (getF L cid).id) := HC.out 0 _ rfl
      have c1 : wr.cell? ⟨bb, 1, none⟩ = some (.int .i64 (getF L cid).pa) := HC.out 1 _ rfl
      have c2 : wr.cell? ⟨bb, 2, none⟩ = some (.string (getF L cid).sc) := HC.out 2 _ rfl
      have c3 : wr.cell? ⟨bb, 3, none⟩ = some (.string (getF L cid).ho) := HC.out 3 _ rfl
      have c4 : wr.cell? ⟨bb, 4, none⟩ = some (.int .i64 (getF L cid).po) := HC.out 4 _ rfl
      have c5 : wr.cell? ⟨bb, 5, none⟩ = some (.string (getF L cid).pt) := HC.out 5 _ rfl
      have c6 : wr.cell? ⟨bb, 6, none⟩ = some (.bool (getF L cid).sb) := HC.out 6 _ rfl
      have c7 : wr.cell? ⟨bb, 7, none⟩ = some (.bool (getF L cid).fl) := HC.out 7 _ rfl
      have c8 : wr.cell? ⟨bb, 8, none⟩ = some (.int .i64 (getF L cid).tc) := HC.out 8 _ rfl
      have c9 : wr.cell? ⟨bb, 9, none⟩ = some (.int .i64 (getF L cid).pa) := HC.out 9 _ rfl
      have HK3 : Hid (∀ W3, KpF row n₁ wr W3 → W3.cell? ⟨bt, 0, none⟩ = some (.map (some bm)) ∧ TreeIs W3 bm 10 L) := fun W3 h3 =>
        have hk := HK.out.trans h3
        ⟨hk.cell HT.out HR.out.1.2, hk.tree HM.out hbm HR.out.1.1⟩
      have HC3 : Hid (∀ W3, KpF row n₁ wr W3 → ∀ o v, wr.cell? ⟨bb, o, none⟩ = some v → W3.cell? ⟨bb, o, none⟩ = some v) := fun W3 h3 o v hv => h3.cell hv (fun e => by have := HR.out.2 bb e.symm; have := hbb.out; omega)
      have HME : Hid (leftF L (.pointer (some ⟨bb, 0, none⟩)) (.bool true) wr = (whF L (getF L cid).id).toNat + 1) := leftF_is c0
      clear HXX HC HW hway hpl eg ei hkx ew hk hu
      have HGP : Hid (∀ D : DataW (Fr × Int), (∀ id : Int, (Maps.has D (.int .i64 id) = hereF L id) ∧ (hereF L id = true → ∀ zd, D.atKey (.int .i64 id) zd = .held (getF L id, (getF L id).pa))) → Maps.has D (.int .i64 (getF L cid).pa) = hereF L (getF L cid).pa ∧ ∀ x i, D.atKey (.int .i64 (getF L cid).pa) (.held (frNone, 0)) = .held (x, i) → hereF L (getF L cid).pa = true → x = getF L (getF L cid).pa ∧ i = (getF L (getF L cid).pa).pa) := fun D hD => ⟨(hD _).1, fun x i h1 h2 => by
        rw [(hD _).2 h2] at h1
        injection h1 with h1
        injection h1 with h1 h3
        exact ⟨h1.symm, h3.symm⟩⟩
      generalize getF L cid = y at *
      obtain ⟨yid, ypa, ysc, yho, ypo, ypt, ysb, yfl, ytc⟩ := y
      dsimp only at *
      gi_wp2
      refine hR.mono ?_
      rintro e W3 (⟨rfl, hJ3, hk3⟩ | ⟨rfl, hJx3⟩)
      · obtain ⟨ht3, hm3⟩ := HK3.out W3 hk3
        obtain ⟨D3, hown3, hD3⟩ := hm3
        have HO3 : Hid (W3.ownsMap Tryd.prog 2 brElem bm 10 D3) := hown3
        obtain ⟨hh3, hx3⟩ := HGP.out D3 hD3
        have HH : Hid (Maps.has D3 (.int .i64 ypa) = hereF L ypa) := hh3
        have HX : Hid (∀ x i, D3.atKey (.int .i64 ypa) (.held (frNone, 0)) = .held (x, i) → hereF L ypa = true → x = getF L ypa ∧ i = (getF L ypa).pa) := hx3
        have HJ3 : Hid (J (pre ++ [⟨yid, ypa, ysc, yho, ypo, ypt, ysb, yfl, ytc⟩]) W3) := hJ3
        have HKK : Hid (KpF row n₁ W W3) := HK.out.trans hk3
        have hbt3 : bt < W3.heap.size := Nat.lt_of_lt_of_le hbt (Nat.le_trans hn₁ HKK.out.1)
        have d0 := HC3.out W3 hk3 0 _ c0
        have d1 := HC3.out W3 hk3 1 _ c1
        have d2 := HC3.out W3 hk3 2 _ c2
        have d3 := HC3.out W3 hk3 3 _ c3
        have d4 := HC3.out W3 hk3 4 _ c4
        have d5 := HC3.out W3 hk3 5 _ c5
        have d6 := HC3.out W3 hk3 6 _ c6
        have d7 := HC3.out W3 hk3 7 _ c7
        have d8 := HC3.out W3 hk3 8 _ c8
        have d9 := HC3.out W3 hk3 9 _ c9
        clear hown3 hD3 hh3 hx3 hJ3 hk3 HC3 HK3 HGP c0 c1 c2 c3 c4 c5 c6 c7 c8 c9 hR
        gi_wp2_with (gi_at_lookup; refine wpListIn_lookup_own_ok _ rfl _ _ 79 rfl 2 98 int9Keyed Tryd.underlying79 brElem (Tryd.zeroValue98 _) (.held (frNone, 0)) [] rfl bm 10 D3 rfl (HO3.out.alloc _) _ _ rfl hkey2 ?_; intro v ps hv; obtain ⟨x, i, rfl, hc⟩ := brElem_inv hv; have hx := HX.out x i (congrArg Prod.fst hc); have HXX : Hid (hereF L ypa = true → x = getF L ypa ∧ i = (getF L ypa).pa) := hx; clear hc hv hx; obtain ⟨xid, xpa, xsc, xho, xpo, xpt, xsb, xfl, xtc⟩ := x; unfold brV; dsimp only; rw [HH.out])
        go_roundw
        case rel => exact ⟨W3.heap.size, ypa, _, ⟨xid, xpa, xsc, xho, xpo, xpt, xsb, xfl, xtc⟩, i, rfl, rfl, Nat.le_trans hn₁ HKK.out.1, fun o v h => by rw [World.cell?_alloc_new]; simpa using h, HXX, HN.out, HJ.out _ _ _ HKK.out.1 HJ3.out, HKK.out.trans (KpF.of_below ((Below.refl _ _).alloc (Nat.le_refl _) _))⟩
        case measure =>
          rw [HME.out]
          cases hp : hereF L ypa with
          | false => rw [leftF_end]; omega
          | true =>
            rw [leftF_is (by rw [World.cell?_alloc_new]; rfl)]
            obtain ⟨e1, -⟩ := HXX.out hp
            obtain ⟨k2, -, ew2, eg2, ei2⟩ := here_wh hp
            have h1 : xid = ypa := by
              have := congrArg Fr.id e1
              rw [eg2, ei2] at this
              exact this
            rw [h1]
            have := HLT.out
            omega
      · gi_wp2
        refine bodyPost_ret (results_none rfl _ _ _) rfl ?_
        exact ⟨⟨_, rfl⟩, .inr ⟨_, HP.out, hJx3⟩⟩
end Go.Proofs.YtclpamjgglfljaaDoor

/- The walk of the program's topOf over the iterator. Written by impltop.py. -/
namespace Go.Proofs.YtclpamjgglfljaaDoor
open Go.RowKit Go.Maps Go.Shelf
attribute [local go_sem] Oper.semAt_some

theorem BoxV.kept {W W' : World} {b : Nat} {vs : List Value} {row : Option Nat} (h : BoxV W b vs) (hg : W.grownBy W' row) (hrow : ∀ r, row = some r → ∃ o : Obj, W.heap[r]? = some o ∧ o.isCells = false) : BoxV W' b vs :=
  ⟨Nat.lt_of_lt_of_le h.1 hg.size, fun _ _ e => ⟨cell_kept (h.at e) hg hrow, (frozen_kept (h.at e) hg hrow).trans (h.free e)⟩⟩
/-- the iterator's contract, as the loop's law wants it -/
theorem outward_stops (n : Nat) (hn : 1 ≤ n) (bt bi bm : Nat) (row : Option Nat) (L : List Fr) (hL : framesB L = true) (id : Int) (i1 : -9223372036854775808 ≤ id) (i2 : id ≤ 9223372036854775807) (w : World)
    (ht : w.cell? ⟨bt, 0, none⟩ = some (.map (some bm))) (hi : w.cell? ⟨bi, 0, none⟩ = some (.int .i64 id)) (hm : TreeIs w bm 10 L) (hbt : bt < w.heap.size) (hbi : bi < w.heap.size) (r1 : some bm ≠ row) (r2 : some bt ≠ row) (hrow : ∀ r, row = some r → r < w.heap.size) :
    SeqStopsK Fence.wide n Tryd.prog 76 #[.pointer (some ⟨bt, 0, none⟩), .pointer (some ⟨bi, 0, none⟩)] (fun x : Fr => #[frV x]) (KpF row w.heap.size) (fun ys => ys = wayF L id) (fun pre => pre <+: wayF L id) 11 w :=
  fun l J Jx W hW hJ _ hY h0 => outward1_in n hn l bt bi bm w.heap.size row L hL id i1 i2 J Jx W hJ (fun pre x W1 a b _ => hY pre x W1 a b) ((hW.cell (p := ⟨bt, 0, none⟩) hbt).trans ht) ((hW.cell (p := ⟨bi, 0, none⟩) hbi).trans hi) (hm.of_block (hW.block bm hm.lt)) hm.lt hbt r1 r2 hW.size hrow h0
theorem BoxV.set_other {w : World} {b g o : Nat} {vs : List Value} {v : Value} (h : BoxV w b vs) (hne : g ≠ b) : BoxV (w.setCell ⟨g, o, none⟩ v) b vs :=
  h.of_block (Below.heap_setCell _ _ _ _ (fun e => hne (by first | exact e | exact e.symm))) (by simp [World.setCell])
theorem BoxV.set {w : World} {b : Nat} {vs : List Value} (h : BoxV w b vs) (i : Nat) (hi : i < vs.length) (v : Value) : BoxV (w.setCell ⟨b, i, none⟩ v) b (vs.set i v) := by
  refine ⟨by simpa [World.setCell] using h.1, fun j u e => ?_⟩
  have hf : ∃ u', vs[j]? = some u' := by
    by_cases hj : j = i
    · subst hj; exact ⟨_, List.getElem?_eq_getElem hi⟩
    · rw [List.getElem?_set_ne (fun e' => hj e'.symm)] at e; exact ⟨u, e⟩
  obtain ⟨u', hu'⟩ := hf
  refine ⟨?_, (World.frozen?_setCell _ _ _ _).trans (h.free hu')⟩
  by_cases hj : j = i
  · subst hj
    rw [List.getElem?_set_self hi] at e
    obtain rfl := Option.some.inj e
    exact World.cell?_setCell_same _ _ _ (h.at hu')
  · rw [List.getElem?_set_ne (fun e' => hj e'.symm)] at e
    rw [World.cell?_setCell_other _ _ _ _ (fun e' => hj (by injection e' with _ e'; exact e'.symm))]
    exact h.at e
theorem KpF.set {b n₁ o : Nat} {A B : World} {v : Value} (h : KpF (some b) n₁ A B) : KpF (some b) n₁ A (B.setCell ⟨b, o, none⟩ v) :=
  ⟨by simpa [World.setCell] using h.1, fun k q hk hA hor => by
    have := h.2 k q hk hA hor
    rw [Below.heap_setCell _ _ _ _ (fun e => hk (by rw [show k = b from by first | exact e | exact e.symm]))]
    exact this⟩
/-- the same for rounds that are told that the url is right -/
theorem outward_stopsR (n : Nat) (hn : 1 ≤ n) (bt bi bm : Nat) (row : Option Nat) (L : List Fr) (hL : framesB L = true) (id : Int) (i1 : -9223372036854775808 ≤ id) (i2 : id ≤ 9223372036854775807) (w : World)
    (ht : w.cell? ⟨bt, 0, none⟩ = some (.map (some bm))) (hi : w.cell? ⟨bi, 0, none⟩ = some (.int .i64 id)) (hm : TreeIs w bm 10 L) (hbt : bt < w.heap.size) (hbi : bi < w.heap.size) (r1 : some bm ≠ row) (r2 : some bt ≠ row) (hrow : ∀ r, row = some r → r < w.heap.size) :
    SeqStopsK Fence.wide n Tryd.prog 76 #[.pointer (some ⟨bt, 0, none⟩), .pointer (some ⟨bi, 0, none⟩)] (fun x : { x : Fr // uF x = true } => #[frV x.1]) (KpF row w.heap.size) (fun ys => ys.map Subtype.val = wayF L id) (fun pre => pre.map Subtype.val <+: wayF L id) 11 w :=
  fun l J Jx W hW hJ _ hY h0 => by
    refine (outward1_in n hn l bt bi bm w.heap.size row L hL id i1 i2 (fun ys W => ∃ zs : List { x : Fr // uF x = true }, zs.map Subtype.val = ys ∧ J zs W) (fun ys W => ∃ zs : List { x : Fr // uF x = true }, zs.map Subtype.val = ys ∧ Jx zs W) W
      (fun s X Y r h hg hr => by obtain ⟨zs, e, hj⟩ := h; exact ⟨zs, e, hJ zs X Y r hj hg hr⟩)
      (fun pre x W1 h hlen hu => by
        obtain ⟨zs, rfl, hj⟩ := h
        refine (hY zs ⟨x, hu⟩ W1 hj (by simpa using hlen)).mono ?_
        rintro e W' (⟨he, h1, h2⟩ | ⟨he, h1⟩)
        · exact .inl ⟨he, ⟨zs ++ [⟨x, hu⟩], by simp, h1⟩, h2⟩
        · exact .inr ⟨he, ⟨zs ++ [⟨x, hu⟩], by simp, h1⟩⟩)
      ((hW.cell (p := ⟨bt, 0, none⟩) hbt).trans ht) ((hW.cell (p := ⟨bi, 0, none⟩) hbi).trans hi) (hm.of_block (hW.block bm hm.lt)) hm.lt hbt r1 r2 hW.size hrow ⟨[], rfl, h0⟩).mono ?_
    rintro e W' ⟨he, ⟨ys, rfl, zs, hz, hj⟩ | ⟨pre, hp, zs, rfl, hj⟩⟩
    · exact ⟨he, .inl ⟨zs, hz, hj⟩⟩
    · exact ⟨he, .inr ⟨zs, hp, hj⟩⟩
end Go.Proofs.YtclpamjgglfljaaDoor

/- The walk of together: two texts put together in new memory. -/
namespace Go.Proofs.YtclpamjgglfljaaDoor
open Go.RowKit


set_option maxRecDepth 10000 in
set_option maxHeartbeats 400000 in
theorem together_full (x y : ByteArray) (w : World) (hz : x.size + y.size ≤ 1000000) (hy : ¬ y = ByteArray.empty) :
    Calls Tryd.prog 78 #[.string x, .string y] w fun e w' => e = .returned (.string (x ++ y)) ∧ Below w.heap.size w w' := by
  obtain ⟨w1, Z, hmk, HG1, hZ, hs1, hb1⟩ := make_row (P := Tryd.prog) w 87 5 _ Tryd.underlying87 infoU8 ((x.size : Int) + (y.size : Int)) (x.size + y.size) (by omega) (by omega)
  go_enter Tryd.func78, Tryd.ntmps78
  go_wp2_with fail
  obtain ⟨w2, hc2, HG2, hs2, hB2⟩ := copy_text (P := Tryd.prog) w1 87 9 3 5 Tryd.underlying87 sizeU8 (some ⟨w.heap.size, 0, none⟩) (x.size + y.size) (x.size + y.size) x (by omega) w.heap.size 0 Z _ HG1 (fun _ => rfl) (by omega)
  have hb2 := hB2 _ _ hb1 (Nat.le_refl _)
  rw [hc2]
  clear hc2 hmk hB2 HG1 hb1
  go_wp2_with fail
  have hl2 : (splice Z 0 (Lib.byteCells x.data.toList)).length = x.size + y.size := by rw [length_splice _ _ _ (by rw [len_cells]; omega), hZ]
  obtain ⟨w3, hc3, HG3, hs3, hB3⟩ := copy_text (P := Tryd.prog) w2 87 9 3 5 Tryd.underlying87 sizeU8 (some ⟨w.heap.size, x.size, none⟩) y.size y.size y (by omega) w.heap.size x.size _ _ HG2 (fun _ => rfl) (by omega)
  have hb3 := hB3 _ _ hb2 (Nat.le_refl _)
  have HG4 : RowAt w3 w.heap.size 5 (Lib.byteCells (x.data.toList ++ y.data.toList) ++ []) := by
    have e := splice_two Z (Lib.byteCells x.data.toList) (Lib.byteCells y.data.toList) (by rw [len_cells, len_cells]; exact hZ)
    rw [len_cells] at e
    rw [e, ← byteCells_append, ← List.append_nil (Lib.byteCells _)] at HG3
    exact HG3
  rw [hc3]
  clear hc3 hB3 HG2 HG3 hb2 hl2
  go_wp2_with fail
  rw [text_of_row (P := Tryd.prog) w3 87 9 5 Tryd.underlying87 Tryd.underlying5 Tryd.underlying9 w.heap.size (x.size + y.size) (x.size + y.size) 5 _ _ HG4 (by rw [List.length_append, ← Lib.size_eq, ← Lib.size_eq])]
  go_wp2
  go_ret
  exact ⟨ret_text (text_append x y), hb3⟩

set_option maxRecDepth 10000 in
set_option maxHeartbeats 400000 in
theorem together_empty (x : ByteArray) (w : World) (hz : x.size ≤ 1000000) :
    Calls Tryd.prog 78 #[.string x, .string ByteArray.empty] w fun e w' => e = .returned (.string x) ∧ Below w.heap.size w w' := by
  obtain ⟨w1, Z, hmk, HG1, hZ, hs1, hb1⟩ := make_row (P := Tryd.prog) w 87 5 _ Tryd.underlying87 infoU8 (x.size : Int) x.size (by omega) (by omega)
  go_enter Tryd.func78, Tryd.ntmps78
  go_wp2_with fail
  obtain ⟨w2, hc2, HG2, hs2, hB2⟩ := copy_text (P := Tryd.prog) w1 87 9 3 5 Tryd.underlying87 sizeU8 (some ⟨w.heap.size, 0, none⟩) x.size x.size x (by omega) w.heap.size 0 Z _ HG1 (fun _ => rfl) (by omega)
  have hb2 := hB2 _ _ hb1 (Nat.le_refl _)
  rw [hc2]
  clear hc2 hmk hB2 HG1 hb1
  go_wp2_with fail
  have HG4 : RowAt w2 w.heap.size 5 (Lib.byteCells x.data.toList ++ []) := by
    have e : splice Z 0 (Lib.byteCells x.data.toList) = Lib.byteCells x.data.toList ++ [] := by
      unfold splice
      rw [List.drop_eq_nil_of_le (by rw [len_cells]; omega)]
      simp
    rw [e] at HG2
    exact HG2
  rw [Lib.run_copy_empty_string (P := Tryd.prog) w2 87 9 3 5 (some ⟨w.heap.size, 0, none⟩) 0 0 ByteArray.empty Tryd.underlying87 (by rw [Option.isSome_iff_exists]; exact ⟨1, sizeU8⟩) rfl]
  go_wp2_with fail
  rw [text_of_row (P := Tryd.prog) w2 87 9 5 Tryd.underlying87 Tryd.underlying5 Tryd.underlying9 w.heap.size x.size x.size 5 _ _ HG4 (by rw [← Lib.size_eq])]
  go_wp2
  go_ret
  exact ⟨rfl, hb2⟩
theorem together_any (x y : ByteArray) (w : World) (hz : x.size + y.size ≤ 1000000) :
    Calls Tryd.prog 78 #[.string x, .string y] w fun e w' => e = .returned (.string (x ++ y)) ∧ Below w.heap.size w w' := by
  by_cases hy : y = ByteArray.empty
  · subst hy
    rw [ByteArray.append_empty]
    exact together_empty x w (by omega)
  · exact together_full x y w hz hy

end Go.Proofs.YtclpamjgglfljaaDoor

/- The walks of the program's urlCopy and frameCopy, of the library's Index and Contains at int64, and of framesWithout. Written by implwithout9.py. -/
namespace Go.Proofs.YtclpamjgglfljaaDoor
open Go.RowKit

def q80 : Oper := { dst := some 3, op := Op.fieldAddr 35 (Operand.tmp 1) 0, type := 0, pos := "l09_frame.go:84", after := #[], guard := none }
def q81 : Oper := { dst := some 4, op := Op.load 9 (Operand.tmp 3), type := 9, pos := "l09_frame.go:84", after := #[{ on := 0, ground := Ground.data }], guard := none }
def q82 : Oper := { dst := some 5, op := Op.call { callee := Callee.value (Operand.func 78), args := #[Operand.tmp 4, Operand.const (Value.string { data := #[] })], argTypes := #[9, 9] }, type := 9, pos := "l09_frame.go:84", after := #[{ on := 1, ground := Ground.data }], guard := none }
def q83 : Oper := { dst := some 6, op := Op.fieldAddr 35 (Operand.tmp 1) 1, type := 0, pos := "l09_frame.go:84", after := #[], guard := none }
def q84 : Oper := { dst := some 7, op := Op.load 9 (Operand.tmp 6), type := 9, pos := "l09_frame.go:84", after := #[{ on := 3, ground := Ground.data }], guard := none }
def q85 : Oper := { dst := some 8, op := Op.call { callee := Callee.value (Operand.func 78), args := #[Operand.tmp 7, Operand.const (Value.string { data := #[] })], argTypes := #[9, 9] }, type := 9, pos := "l09_frame.go:84", after := #[{ on := 4, ground := Ground.data }, { on := 2, ground := Ground.chain }], guard := none }
def q86 : Oper := { dst := some 9, op := Op.fieldAddr 35 (Operand.tmp 1) 2, type := 0, pos := "l09_frame.go:84", after := #[], guard := none }
def q87 : Oper := { dst := some 10, op := Op.load 2 (Operand.tmp 9), type := 2, pos := "l09_frame.go:84", after := #[{ on := 6, ground := Ground.data }], guard := none }
def q88 : Oper := { dst := some 11, op := Op.fieldAddr 35 (Operand.tmp 1) 3, type := 0, pos := "l09_frame.go:84", after := #[], guard := none }
def q89 : Oper := { dst := some 12, op := Op.load 9 (Operand.tmp 11), type := 9, pos := "l09_frame.go:84", after := #[{ on := 8, ground := Ground.data }], guard := none }
def q810 : Oper := { dst := some 13, op := Op.call { callee := Callee.value (Operand.func 78), args := #[Operand.tmp 12, Operand.const (Value.string { data := #[] })], argTypes := #[9, 9] }, type := 9, pos := "l09_frame.go:84", after := #[{ on := 9, ground := Ground.data }, { on := 5, ground := Ground.chain }], guard := none }
def q811 : Oper := { dst := some 14, op := Op.build 35 #[(0, Operand.tmp 5), (1, Operand.tmp 8), (2, Operand.tmp 10), (3, Operand.tmp 13)], type := 35, pos := "l09_frame.go:84", after := #[{ on := 2, ground := Ground.data }, { on := 5, ground := Ground.data }, { on := 7, ground := Ground.data }, { on := 10, ground := Ground.data }], guard := none }
def q812 : Oper := { dst := none, op := Op.store 35 (Operand.tmp 2) (Operand.tmp 14), type := 0, pos := "l09_frame.go:84", after := #[{ on := 11, ground := Ground.data }, { on := 10, ground := Ground.chain }, { on := 0, ground := Ground.phase }, { on := 1, ground := Ground.phase }, { on := 2, ground := Ground.phase }, { on := 3, ground := Ground.phase }, { on := 4, ground := Ground.phase }, { on := 5, ground := Ground.phase }, { on := 6, ground := Ground.phase }, { on := 7, ground := Ground.phase }, { on := 8, ground := Ground.phase }, { on := 9, ground := Ground.phase }, { on := 10, ground := Ground.phase }, { on := 11, ground := Ground.phase }], guard := none }
open List (setIfInBounds_toArray set_cons_zero set_cons_succ)
set_option maxRecDepth 10000 in
set_option maxHeartbeats 8000000 in
theorem urlCopy_any (sc ho pt : ByteArray) (po : Int) (w : World) (h0 : sc.size ≤ 1000000) (h1 : ho.size ≤ 1000000) (h2 : pt.size ≤ 1000000) :
    Calls Tryd.prog 62 #[.agg #[.string sc, .string ho, .int .i64 po, .string pt]] w fun e w' => e = .returned (.agg #[.string sc, .string ho, .int .i64 po, .string pt]) ∧ Below w.heap.size w w' := by
  have K0 : Hid (∀ W, Calls Tryd.prog 78 #[.string sc, .string ⟨#[]⟩] W fun e w' => e = .returned (.string sc) ∧ Below W.heap.size W w') := fun W => together_empty sc W (by omega)
  have K1 : Hid (∀ W, Calls Tryd.prog 78 #[.string ho, .string ⟨#[]⟩] W fun e w' => e = .returned (.string ho) ∧ Below W.heap.size W w') := fun W => together_empty ho W (by omega)
  have K2 : Hid (∀ W, Calls Tryd.prog 78 #[.string pt, .string ⟨#[]⟩] W fun e w' => e = .returned (.string pt) ∧ Below W.heap.size W w') := fun W => together_empty pt W (by omega)
  obtain ⟨W0, hW⟩ : ∃ W0, W0 = ((w.alloc (.cells #[.string sc, .string ho, .int .i64 po, .string pt] 35)).alloc (.cells #[.string ⟨#[]⟩, .string ⟨#[]⟩, .int .i64 0, .string ⟨#[]⟩] 35)) := ⟨_, rfl⟩
  have hW0 : Hid (W0 = ((w.alloc (.cells #[.string sc, .string ho, .int .i64 po, .string pt] 35)).alloc (.cells #[.string ⟨#[]⟩, .string ⟨#[]⟩, .int .i64 0, .string ⟨#[]⟩] 35))) := hW
  have HB : Hid (Below w.heap.size w W0) := by show Below _ _ _; rw [hW]; exact ((Below.refl _ _).alloc (Nat.le_refl _) _).alloc (by simp) _
  have z1 : w.heap.size + 1 < W0.heap.size := by rw [hW]; simp
  have c0 : W0.cell? ⟨w.heap.size, 0, none⟩ = some (.string sc) := by rw [hW]; simp
  have c1 : W0.cell? ⟨w.heap.size, 1, none⟩ = some (.string ho) := by rw [hW]; simp
  have c2 : W0.cell? ⟨w.heap.size, 2, none⟩ = some (.int .i64 po) := by rw [hW]; simp
  have c3 : W0.cell? ⟨w.heap.size, 3, none⟩ = some (.string pt) := by rw [hW]; simp
  have d0 : W0.cell? ⟨w.heap.size + 1, 0, none⟩ = some (.string ⟨#[]⟩) := by rw [hW]; exact (World.cell?_alloc_at _ _ _ _ (by simp)).trans rfl
  have d1 : W0.cell? ⟨w.heap.size + 1, 1, none⟩ = some (.string ⟨#[]⟩) := by rw [hW]; exact (World.cell?_alloc_at _ _ _ _ (by simp)).trans rfl
  have d2 : W0.cell? ⟨w.heap.size + 1, 2, none⟩ = some (.int .i64 0) := by rw [hW]; exact (World.cell?_alloc_at _ _ _ _ (by simp)).trans rfl
  have d3 : W0.cell? ⟨w.heap.size + 1, 3, none⟩ = some (.string ⟨#[]⟩) := by rw [hW]; exact (World.cell?_alloc_at _ _ _ _ (by simp)).trans rfl
  have fz : ∀ o, W0.frozen? ⟨w.heap.size + 1, o, none⟩ = false := by rw [hW]; exact fun o => World.frozen?_alloc_at _ _ _ _ (by simp)
  have f0 := fz 0
  have f1 := fz 1
  have f2 := fz 2
  have f3 := fz 3
  clear hW h0 h1 h2 fz
  go_enter Tryd.func62, Tryd.ntmps62
  go_upto_region 1 with fail
  rw [← hW0.out]
  clear hW0
  generalize hbb : w.heap.size = b at *
  have hb1 : b < W0.heap.size := by omega
  refine wp_region_held_drew (S := (fun w' => w'.cell? ⟨b, 0, none⟩ = some (.string sc) ∧ w'.cell? ⟨b, 1, none⟩ = some (.string ho) ∧ w'.cell? ⟨b, 2, none⟩ = some (.int .i64 po) ∧ w'.cell? ⟨b, 3, none⟩ = some (.string pt))) (by kernel_rfl) ?_ (fun hH0 => ?_)
  · (try dsimp only)
    go_keep
  refine takeY (i := 0) (oi := q80) (v := ?va00) rfl ?ha00 ?ra00
  case ha00 => (intro w hSw; (try dsimp only [q80] at hSw ⊢); go_simp; try with_reducible rfl)
  try simp only [q80, Act.put, setIfInBounds_toArray, set_cons_zero, set_cons_succ]
  refine takeY (i := 1) (oi := q81) (v := ?va01) rfl ?ha01 ?ra01
  case ha01 => (intro w hSw; (try dsimp only [q81] at hSw ⊢); go_simp; try with_reducible rfl)
  try simp only [q81, Act.put, setIfInBounds_toArray, set_cons_zero, set_cons_succ]
  refine takeY (i := 3) (oi := q83) (v := ?va03) rfl ?ha03 ?ra03
  case ha03 => (intro w hSw; (try dsimp only [q83] at hSw ⊢); go_simp; try with_reducible rfl)
  try simp only [q83, Act.put, setIfInBounds_toArray, set_cons_zero, set_cons_succ]
  refine takeY (i := 4) (oi := q84) (v := ?va04) rfl ?ha04 ?ra04
  case ha04 => (intro w hSw; (try dsimp only [q84] at hSw ⊢); go_simp; try with_reducible rfl)
  try simp only [q84, Act.put, setIfInBounds_toArray, set_cons_zero, set_cons_succ]
  refine takeY (i := 6) (oi := q86) (v := ?va06) rfl ?ha06 ?ra06
  case ha06 => (intro w hSw; (try dsimp only [q86] at hSw ⊢); go_simp; try with_reducible rfl)
  try simp only [q86, Act.put, setIfInBounds_toArray, set_cons_zero, set_cons_succ]
  refine takeY (i := 7) (oi := q87) (v := ?va07) rfl ?ha07 ?ra07
  case ha07 => (intro w hSw; (try dsimp only [q87] at hSw ⊢); go_simp; try with_reducible rfl)
  try simp only [q87, Act.put, setIfInBounds_toArray, set_cons_zero, set_cons_succ]
  refine takeY (i := 8) (oi := q88) (v := ?va08) rfl ?ha08 ?ra08
  case ha08 => (intro w hSw; (try dsimp only [q88] at hSw ⊢); go_simp; try with_reducible rfl)
  try simp only [q88, Act.put, setIfInBounds_toArray, set_cons_zero, set_cons_succ]
  refine takeY (i := 9) (oi := q89) (v := ?va09) rfl ?ha09 ?ra09
  case ha09 => (intro w hSw; (try dsimp only [q89] at hSw ⊢); go_simp; try with_reducible rfl)
  try simp only [q89, Act.put, setIfInBounds_toArray, set_cons_zero, set_cons_succ]
  refine wpAnyH_ready (rs := [2]) (by kernel_rfl) (by simp) ?_
  refine AllReadyH.cons (o := q82) rfl (fun K hK => ?_) AllReadyH.nil
  dsimp only [q82] at hK ⊢
  go_simp
  (go_at_call 78; refine (K0.out _).mono ?_; rintro e w1 ⟨rfl, hq1⟩; have A1 : Below W0.heap.size W0 w1 := (Below.drew (Below.refl _ _)).trans hq1; have x0 : w1.cell? ⟨b, 0, none⟩ = some (.string sc) := ((bcell A1).1 _ _ hb1).trans c0; have x1 : w1.cell? ⟨b, 1, none⟩ = some (.string ho) := ((bcell A1).1 _ _ hb1).trans c1; have x2 : w1.cell? ⟨b, 2, none⟩ = some (.int .i64 po) := ((bcell A1).1 _ _ hb1).trans c2; have x3 : w1.cell? ⟨b, 3, none⟩ = some (.string pt) := ((bcell A1).1 _ _ hb1).trans c3)
  try (go_wp2_with fail)
  refine hK.out _ _ ?_ (fun hH1 => ?_)
  · (try dsimp only)
    go_keep
  clear hK K hH0
  try simp only [q82, Act.put, setIfInBounds_toArray, set_cons_zero, set_cons_succ]
  refine wpAnyH_ready (rs := [5]) (by kernel_rfl) (by simp) ?_
  refine AllReadyH.cons (o := q85) rfl (fun K hK => ?_) AllReadyH.nil
  dsimp only [q85] at hK ⊢
  go_simp
  (go_at_call 78; refine (K1.out _).mono ?_; rintro e w2 ⟨rfl, hq2⟩; have A2 : Below W0.heap.size W0 w2 := A1.trans (hq2.mono A1.size); have y0 : w2.cell? ⟨b, 0, none⟩ = some (.string sc) := ((bcell A2).1 _ _ hb1).trans c0; have y1 : w2.cell? ⟨b, 1, none⟩ = some (.string ho) := ((bcell A2).1 _ _ hb1).trans c1; have y2 : w2.cell? ⟨b, 2, none⟩ = some (.int .i64 po) := ((bcell A2).1 _ _ hb1).trans c2; have y3 : w2.cell? ⟨b, 3, none⟩ = some (.string pt) := ((bcell A2).1 _ _ hb1).trans c3)
  try (go_wp2_with fail)
  refine hK.out _ _ ?_ (fun hH2 => ?_)
  · (try dsimp only)
    go_keep
  clear hK K hH1
  try simp only [q85, Act.put, setIfInBounds_toArray, set_cons_zero, set_cons_succ]
  refine wpAnyH_ready (rs := [10]) (by kernel_rfl) (by simp) ?_
  refine AllReadyH.cons (o := q810) rfl (fun K hK => ?_) AllReadyH.nil
  dsimp only [q810] at hK ⊢
  go_simp
  (go_at_call 78; refine (K2.out _).mono ?_; rintro e w3 ⟨rfl, hq3⟩; have A3 : Below W0.heap.size W0 w3 := A2.trans (hq3.mono A2.size); have v0 : w3.cell? ⟨b, 0, none⟩ = some (.string sc) := ((bcell A3).1 _ _ hb1).trans c0; have v1 : w3.cell? ⟨b, 1, none⟩ = some (.string ho) := ((bcell A3).1 _ _ hb1).trans c1; have v2 : w3.cell? ⟨b, 2, none⟩ = some (.int .i64 po) := ((bcell A3).1 _ _ hb1).trans c2; have v3 : w3.cell? ⟨b, 3, none⟩ = some (.string pt) := ((bcell A3).1 _ _ hb1).trans c3; have r0 : w3.cell? ⟨b + 1, 0, none⟩ = some (.string ⟨#[]⟩) := ((bcell A3).1 _ _ z1).trans d0; have s0 : w3.frozen? ⟨b + 1, 0, none⟩ = false := ((bcell A3).2 _ _ z1).trans f0; have r1 : w3.cell? ⟨b + 1, 1, none⟩ = some (.string ⟨#[]⟩) := ((bcell A3).1 _ _ z1).trans d1; have s1 : w3.frozen? ⟨b + 1, 1, none⟩ = false := ((bcell A3).2 _ _ z1).trans f1; have r2 : w3.cell? ⟨b + 1, 2, none⟩ = some (.int .i64 0) := ((bcell A3).1 _ _ z1).trans d2; have s2 : w3.frozen? ⟨b + 1, 2, none⟩ = false := ((bcell A3).2 _ _ z1).trans f2; have r3 : w3.cell? ⟨b + 1, 3, none⟩ = some (.string ⟨#[]⟩) := ((bcell A3).1 _ _ z1).trans d3; have s3 : w3.frozen? ⟨b + 1, 3, none⟩ = false := ((bcell A3).2 _ _ z1).trans f3)
  try (go_wp2_with fail)
  refine hK.out _ _ ?_ (fun hH3 => ?_)
  · (try dsimp only)
    go_keep
  clear hK K hH2
  try simp only [q810, Act.put, setIfInBounds_toArray, set_cons_zero, set_cons_succ]
  refine takeY (i := 11) (oi := q811) (v := ?va011) rfl ?ha011 ?ra011
  case ha011 => (intro w hSw; (try dsimp only [q811] at hSw ⊢); go_simp; try with_reducible rfl)
  try simp only [q811, Act.put, setIfInBounds_toArray, set_cons_zero, set_cons_succ]
  refine wpAnyH_ready (rs := [12]) (by kernel_rfl) (by simp) ?_
  refine AllReadyH.cons (o := q812) rfl (fun K hK => ?_) AllReadyH.nil
  dsimp only [q812] at hK ⊢
  go_simp
  (skip)
  try (go_wp2_with fail)
  refine hK.out _ _ ?_ (fun hH4 => ?_)
  · (try dsimp only)
    go_keep
  clear hK K hH3
  try simp only [q812, Act.put, setIfInBounds_toArray, set_cons_zero, set_cons_succ]
  refine wpAnyH_done (by kernel_rfl) ?_ _
  all_goals go_wp2
  all_goals
    refine bodyPost_ret (v := .agg #[.string sc, .string ho, .int .i64 po, .string pt]) (by simp [results, Tryd.results62, go_sem, r0, r1, r2, r3]) rfl ⟨rfl, ?_⟩
    have hB2 : Below b w w3 := HB.out.trans (A3.mono (by omega))
    rw [hbb]
    exact (Below.setCell (Below.setCell (Below.setCell (Below.setCell hB2 (Nat.le_succ _) _) (Nat.le_succ _) _) (Nat.le_succ _) _) (Nat.le_succ _) _)
set_option maxRecDepth 10000 in
set_option maxHeartbeats 8000000 in
theorem frameCopy_any (c : Fr) (w : World) (h0 : c.sc.size ≤ 1000000) (h1 : c.ho.size ≤ 1000000) (h2 : c.pt.size ≤ 1000000) :
    Calls Tryd.prog 57 #[frV c] w fun e w' => e = .returned (frV c) ∧ Below w.heap.size w w' := by
  have K : Hid (∀ W, Calls Tryd.prog 62 #[.agg #[.string c.sc, .string c.ho, .int .i64 c.po, .string c.pt]] W fun e w' => e = .returned (.agg #[.string c.sc, .string c.ho, .int .i64 c.po, .string c.pt]) ∧ Below W.heap.size W w') := fun W => urlCopy_any c.sc c.ho c.pt c.po W h0 h1 h2
  clear h0 h1 h2
  obtain ⟨id, pa, sc, ho, po, pt, sb, fl, tc⟩ := c
  unfold frV
  dsimp only at *
  have HX0 : Hid (BoxV (w.alloc (.cells #[.int .i64 id, .int .i64 pa, .string sc, .string ho, .int .i64 po, .string pt, .bool sb, .bool fl, .int .i64 tc] 54)) w.heap.size [.int .i64 id, .int .i64 pa, .string sc, .string ho, .int .i64 po, .string pt, .bool sb, .bool fl, .int .i64 tc]) := boxV_new w [.int .i64 id, .int .i64 pa, .string sc, .string ho, .int .i64 po, .string pt, .bool sb, .bool fl, .int .i64 tc] 54
  have HY0 : Hid (BoxV ((w.alloc (.cells #[.int .i64 id, .int .i64 pa, .string sc, .string ho, .int .i64 po, .string pt, .bool sb, .bool fl, .int .i64 tc] 54)).alloc (.cells #[.int .i64 0, .int .i64 0, .string ⟨#[]⟩, .string ⟨#[]⟩, .int .i64 0, .string ⟨#[]⟩, .bool false, .bool false, .int .i64 0] 54)) (w.heap.size + 1) [.int .i64 0, .int .i64 0, .string ⟨#[]⟩, .string ⟨#[]⟩, .int .i64 0, .string ⟨#[]⟩, .bool false, .bool false, .int .i64 0]) := by
    have h := boxV_new (w.alloc (.cells #[.int .i64 id, .int .i64 pa, .string sc, .string ho, .int .i64 po, .string pt, .bool sb, .bool fl, .int .i64 tc] 54)) [.int .i64 0, .int .i64 0, .string ⟨#[]⟩, .string ⟨#[]⟩, .int .i64 0, .string ⟨#[]⟩, .bool false, .bool false, .int .i64 0] 54
    rw [World.size_alloc] at h
    exact h
  have HB0 : Hid (Below w.heap.size w ((w.alloc (.cells #[.int .i64 id, .int .i64 pa, .string sc, .string ho, .int .i64 po, .string pt, .bool sb, .bool fl, .int .i64 tc] 54)).alloc (.cells #[.int .i64 0, .int .i64 0, .string ⟨#[]⟩, .string ⟨#[]⟩, .int .i64 0, .string ⟨#[]⟩, .bool false, .bool false, .int .i64 0] 54))) := ((Below.refl _ _).alloc (Nat.le_refl _) _).alloc (by simp) _
  go_enter Tryd.func57, Tryd.ntmps57
  go_wp2_with fail
  refine (K.out _).mono ?_
  rintro e w1 ⟨rfl, hb1⟩
  have HX1 : Hid (BoxV w1 w.heap.size [.int .i64 id, .int .i64 pa, .string sc, .string ho, .int .i64 po, .string pt, .bool sb, .bool fl, .int .i64 tc]) := (HX0.out.alloc _).below hb1
  have HY1 : Hid (BoxV w1 (w.heap.size + 1) [.int .i64 0, .int .i64 0, .string ⟨#[]⟩, .string ⟨#[]⟩, .int .i64 0, .string ⟨#[]⟩, .bool false, .bool false, .int .i64 0]) := HY0.out.below hb1
  have B1 : Hid (Below w.heap.size w w1) := HB0.out.trans (hb1.mono HB0.out.size)
  clear hb1 HX0 HY0 HB0 K
  generalize hbb : w.heap.size = b at *
  have x0 : w1.cell? ⟨b, 0, none⟩ = some (.int .i64 id) := HX1.out.at (i := 0) rfl
  have xf0 : w1.frozen? ⟨b, 0, none⟩ = false := HX1.out.free (i := 0) rfl
  have x1 : w1.cell? ⟨b, 1, none⟩ = some (.int .i64 pa) := HX1.out.at (i := 1) rfl
  have xf1 : w1.frozen? ⟨b, 1, none⟩ = false := HX1.out.free (i := 1) rfl
  have x2 : w1.cell? ⟨b, 2, none⟩ = some (.string sc) := HX1.out.at (i := 2) rfl
  have xf2 : w1.frozen? ⟨b, 2, none⟩ = false := HX1.out.free (i := 2) rfl
  have x3 : w1.cell? ⟨b, 3, none⟩ = some (.string ho) := HX1.out.at (i := 3) rfl
  have xf3 : w1.frozen? ⟨b, 3, none⟩ = false := HX1.out.free (i := 3) rfl
  have x4 : w1.cell? ⟨b, 4, none⟩ = some (.int .i64 po) := HX1.out.at (i := 4) rfl
  have xf4 : w1.frozen? ⟨b, 4, none⟩ = false := HX1.out.free (i := 4) rfl
  have x5 : w1.cell? ⟨b, 5, none⟩ = some (.string pt) := HX1.out.at (i := 5) rfl
  have xf5 : w1.frozen? ⟨b, 5, none⟩ = false := HX1.out.free (i := 5) rfl
  have x6 : w1.cell? ⟨b, 6, none⟩ = some (.bool sb) := HX1.out.at (i := 6) rfl
  have xf6 : w1.frozen? ⟨b, 6, none⟩ = false := HX1.out.free (i := 6) rfl
  have x7 : w1.cell? ⟨b, 7, none⟩ = some (.bool fl) := HX1.out.at (i := 7) rfl
  have xf7 : w1.frozen? ⟨b, 7, none⟩ = false := HX1.out.free (i := 7) rfl
  have x8 : w1.cell? ⟨b, 8, none⟩ = some (.int .i64 tc) := HX1.out.at (i := 8) rfl
  have xf8 : w1.frozen? ⟨b, 8, none⟩ = false := HX1.out.free (i := 8) rfl
  have y0 : w1.cell? ⟨b + 1, 0, none⟩ = some (.int .i64 0) := HY1.out.at (i := 0) rfl
  have yf0 : w1.frozen? ⟨b + 1, 0, none⟩ = false := HY1.out.free (i := 0) rfl
  have y1 : w1.cell? ⟨b + 1, 1, none⟩ = some (.int .i64 0) := HY1.out.at (i := 1) rfl
  have yf1 : w1.frozen? ⟨b + 1, 1, none⟩ = false := HY1.out.free (i := 1) rfl
  have y2 : w1.cell? ⟨b + 1, 2, none⟩ = some (.string ⟨#[]⟩) := HY1.out.at (i := 2) rfl
  have yf2 : w1.frozen? ⟨b + 1, 2, none⟩ = false := HY1.out.free (i := 2) rfl
  have y3 : w1.cell? ⟨b + 1, 3, none⟩ = some (.string ⟨#[]⟩) := HY1.out.at (i := 3) rfl
  have yf3 : w1.frozen? ⟨b + 1, 3, none⟩ = false := HY1.out.free (i := 3) rfl
  have y4 : w1.cell? ⟨b + 1, 4, none⟩ = some (.int .i64 0) := HY1.out.at (i := 4) rfl
  have yf4 : w1.frozen? ⟨b + 1, 4, none⟩ = false := HY1.out.free (i := 4) rfl
  have y5 : w1.cell? ⟨b + 1, 5, none⟩ = some (.string ⟨#[]⟩) := HY1.out.at (i := 5) rfl
  have yf5 : w1.frozen? ⟨b + 1, 5, none⟩ = false := HY1.out.free (i := 5) rfl
  have y6 : w1.cell? ⟨b + 1, 6, none⟩ = some (.bool false) := HY1.out.at (i := 6) rfl
  have yf6 : w1.frozen? ⟨b + 1, 6, none⟩ = false := HY1.out.free (i := 6) rfl
  have y7 : w1.cell? ⟨b + 1, 7, none⟩ = some (.bool false) := HY1.out.at (i := 7) rfl
  have yf7 : w1.frozen? ⟨b + 1, 7, none⟩ = false := HY1.out.free (i := 7) rfl
  have y8 : w1.cell? ⟨b + 1, 8, none⟩ = some (.int .i64 0) := HY1.out.at (i := 8) rfl
  have yf8 : w1.frozen? ⟨b + 1, 8, none⟩ = false := HY1.out.free (i := 8) rfl
  clear HX1 HY1
  go_wp2
  exact bodyPost_ret (v := .agg #[.int .i64 id, .int .i64 pa, .string sc, .string ho, .int .i64 po, .string pt, .bool sb, .bool fl, .int .i64 tc]) (by simp [results, Tryd.results57, go_sem, y0, y1, y2, y3, y4, y5, y6, y7, y8]) rfl ⟨rfl, by rw [hbb]; exact (Below.setCell (Below.setCell (Below.setCell (Below.setCell (Below.setCell (Below.setCell (Below.setCell (Below.setCell (Below.setCell (Below.setCell (Below.setCell (Below.setCell (Below.setCell B1.out (Nat.le_refl _) _) (Nat.le_refl _) _) (Nat.le_refl _) _) (Nat.le_refl _) _) (Nat.le_succ _) _) (Nat.le_succ _) _) (Nat.le_succ _) _) (Nat.le_succ _) _) (Nat.le_succ _) _) (Nat.le_succ _) _) (Nat.le_succ _) _) (Nat.le_succ _) _) (Nat.le_succ _) _)⟩
/-- a slice of numbers -/
def SliceN (w : World) (B : Nat) (v : Value) (I : List Int) : Prop := SliceR w B 1 v I.length (fun j _ => .int .i64 (I.getD j 0)) 
theorem SliceN.below {w w' : World} {B : Nat} {v : Value} {I : List Int} (h : SliceN w B v I) (hb : Below w.heap.size w w') : SliceN w' B v I := SliceR.below h hb
theorem sliceN_none (w : World) (B : Nat) : SliceN w B (.slice none 0 0) [] := sliceR_none _ _ _ _ _ _
set_option maxRecDepth 10000 in
set_option maxHeartbeats 4000000 in
theorem index9_any (v : Value) (I : List Int) (B : Nat) (x : Int) (w : World) (hs : SliceN w B v I) (hn : I.length ≤ 1048576) :
    Calls Tryd.prog 75 #[v, .int .i64 x] w fun e w' => (∃ r : Int, e = .returned (.int .i64 r) ∧ decide (0 ≤ r) = I.contains x) ∧ w' = w := by
  obtain ⟨p, cap, rfl, hg⟩ := hs
  have HG : Hid (0 < I.length → ∃ g, p = some ⟨g, 0, none⟩ ∧ ∀ j, j < I.length → w.cell? ⟨g, j, none⟩ = some (.int .i64 (I.getD j 0))) := fun h0 => by
    obtain ⟨g, e, -, -, hc⟩ := hg h0
    exact ⟨g, e, fun j hj => by have := (hc j hj 0 (by omega)).1; rw [Nat.mul_one] at this; exact this⟩
  have HY : Hid (∀ k, k < I.length → I.getD k 0 = x → I.contains x = true) := fun k hk e => by
    rw [List.contains_iff_mem]
    subst e
    rw [List.getD_eq_getElem?_getD, List.getElem?_eq_getElem hk]
    exact List.getElem_mem hk
  have HN : Hid ((∀ j, j < I.length → I.getD j 0 ≠ x) → I.contains x = false) := fun h => by
    rw [Bool.eq_false_iff]
    intro hc
    rw [List.contains_iff_mem] at hc
    obtain ⟨j, hj, e⟩ := List.mem_iff_getElem.1 hc
    refine h j hj ?_
    rw [List.getD_eq_getElem?_getD, List.getElem?_eq_getElem hj]
    exact e
  clear hg
  generalize I.contains x = R at *
  go_enter Tryd.func75, Tryd.ntmps75
  go_wp2
  go_loopw [8] (fun i wr => ∃ k : Nat, k ≤ I.length ∧ i = .int .i64 k ∧ Hid (∀ j, j < k → I.getD j 0 ≠ x) ∧ Hid (wr = w)) (fun i _ => I.length - (intOf i).toNat)
  case atStart => exact ⟨0, Nat.zero_le _, rfl, fun j hj => absurd hj (by omega), rfl⟩
  case round =>
    obtain ⟨k, hk, rfl, HR, HW⟩ := hrel
    by_cases hlt : k < I.length
    · obtain ⟨g, rfl, hc⟩ := HG.out (by omega)
      have c0 : wr.cell? ⟨g, k, none⟩ = some (.int .i64 (I.getD k 0)) := by rw [HW.out]; exact hc k hlt
      have k0 : (0 : Int) ≤ k := by omega
      have k1 : (k : Int) < I.length := by omega
      have HYk : Hid (I.getD k 0 = x → R = true) := HY.out k hlt
      have HNx : Hid (I.getD k 0 ≠ x → ∀ j, j < k + 1 → I.getD j 0 ≠ x) := fun h j hj => by
        by_cases e : j = k
        · subst e; exact h
        · exact HR.out j (by omega)
      clear hc HG HY HN HR
      generalize I.getD k 0 = y at *
      by_cases hx : y = x
      · have q1 : (x == y) = true := by rw [hx]; exact beq_self_eq_true _
        have HQ : Hid (R = true) := HYk.out hx
        go_wp2
        go_ret
        exact ⟨⟨_, rfl, by rw [HQ.out]; exact decide_eq_true (by omega)⟩, HW.out⟩
      · have q1 : (x == y) = false := by rw [beq_eq_false_iff_ne]; exact fun e => hx e.symm
        have HN2 := HNx.out hx
        have HN3 : Hid (∀ j, j < k + 1 → I.getD j 0 ≠ x) := HN2
        clear HN2 HNx HYk
        go_wp2
        go_roundw
        case rel => exact ⟨k + 1, by omega, by go_num, HN3, HW⟩
        case measure => simp [intOf]; omega
    · have HQ : Hid (R = false) := HN.out (fun j hj => HR.out j (by omega))
      go_wp2
      go_ret
      exact ⟨⟨_, rfl, by rw [HQ.out]; exact decide_eq_false (by omega)⟩, HW.out⟩
set_option maxRecDepth 10000 in
theorem contains9_any (v : Value) (I : List Int) (B : Nat) (x : Int) (w : World) (hs : SliceN w B v I) (hn : I.length ≤ 1048576) :
    Calls Tryd.prog 56 #[v, .int .i64 x] w fun e w' => e = .returned (.bool (I.contains x)) ∧ w' = w := by
  have KI : Hid (∀ W, W = w → Calls Tryd.prog 75 #[v, .int .i64 x] W fun e w' => (∃ r : Int, e = .returned (.int .i64 r) ∧ decide (0 ≤ r) = I.contains x) ∧ w' = W) := fun W e => by subst e; exact index9_any v I B x W hs hn
  generalize I.contains x = R at *
  go_enter Tryd.func56, Tryd.ntmps56
  go_wp2_with fail
  refine (KI.out _ rfl).mono ?_
  rintro e w1 ⟨⟨r, rfl, hr⟩, e1⟩
  have HQ : Hid (decide (0 ≤ r) = R) := hr
  have HW : Hid (w1 = w) := e1
  clear hr e1
  go_wp2
  go_ret
  exact ⟨ret_bool HQ.out, HW.out⟩
/-- those whose Id is not among the numbers -/
def withF (I : List Int) (L : List Fr) : List Fr := L.filter (fun f => !(I.contains f.id))
theorem withF_len (I : List Int) (L : List Fr) : (withF I L).length ≤ L.length := List.length_filter_le _ _
theorem withF_step {I : List Int} {L : List Fr} {k : Nat} (hk : k < L.length) : withF I (L.take (k + 1)) = if I.contains (atF L k).id = true then withF I (L.take k) else withF I (L.take k) ++ [atF L k] := by
  unfold withF
  rw [List.take_succ_eq_append_getElem hk, List.filter_append, ← atF_get hk]
  cases h : I.contains (atF L k).id with
  | true => rw [if_pos rfl, List.filter_cons_of_neg (by rw [h]; decide), List.filter_nil, List.append_nil]
  | false => rw [if_neg (by decide), List.filter_cons_of_pos (by rw [h]; decide), List.filter_nil]
set_option maxRecDepth 10000 in
set_option maxHeartbeats 8000000 in
theorem framesWithout_any (v sv : Value) (L : List Fr) (I : List Int) (B Bs : Nat) (w : World) (hs : SliceF w B v L) (hn : L.length ≤ 1000) (hi9 : SliceN w Bs sv I) (hin : I.length ≤ 1048576) (hz : ∀ i, i < L.length → (atF L i).sc.size ≤ 1000000 ∧ (atF L i).ho.size ≤ 1000000 ∧ (atF L i).pt.size ≤ 1000000) :
    Calls Tryd.prog 33 #[v, sv] w fun e w' => ∃ v', e = .returned v' ∧ w'.ownsRow w.heap.size 54 9 v' (withF I L).length (frCells (withF I L)) ∧ Below w.heap.size w w' := by
  have KC : Hid (∀ j, j < L.length → ∀ W, Calls Tryd.prog 57 #[frV (atF L j)] W fun e w' => e = .returned (frV (atF L j)) ∧ Below W.heap.size W w') := fun j hj W => frameCopy_any (atF L j) W (hz j hj).1 (hz j hj).2.1 (hz j hj).2.2
  have KI : Hid (∀ x W, Below w.heap.size w W → Calls Tryd.prog 56 #[sv, .int .i64 x] W fun e w' => e = .returned (.bool (I.contains x)) ∧ w' = W) := fun x W hb => contains9_any sv I Bs x W (hi9.below hb) hin
  have HST : Hid (∀ k, k < L.length → withF I (L.take (k + 1)) = if I.contains (atF L k).id = true then withF I (L.take k) else withF I (L.take k) ++ [atF L k]) := fun k hk => withF_step hk
  have HLE : Hid (∀ k, (withF I (L.take k)).length ≤ k) := fun k => Nat.le_trans (withF_len _ _) (by rw [List.length_take]; omega)
  have HSN : Hid (∀ (Y : List Fr) (c : Fr), frCells Y ++ frVals c = frCells (Y ++ [c])) := fun Y c => frCells_snoc Y c
  obtain ⟨i0, hi, hy0, hy1, hy2⟩ := info_parts infoFrame
  obtain ⟨⟨q, cap, rfl, hg⟩, -⟩ := hs
  have HG : Hid (0 < L.length → ∃ g, q = some ⟨g, 0, none⟩ ∧ g < w.heap.size ∧ ∀ j, j < L.length → ∀ o, o < 9 → w.cell? ⟨g, j * 9 + o, none⟩ = some (frC (atF L j) o)) := fun h0 => by
    obtain ⟨g, e, -, hgw, hc⟩ := hg h0
    exact ⟨g, e, hgw, fun j hj o ho => (hc j hj o ho).1⟩
  clear hg hz hi9
  go_enter Tryd.func33, Tryd.ntmps33
  go_wp2
  go_loopw [5, 10] (fun stv i wr => ∃ (k : Nat) (sl : Value), sl = stv ∧ k ≤ L.length ∧ i = .int .i64 k ∧ Hid (wr.ownsRow w.heap.size 54 9 sl (withF I (L.take k)).length (frCells (withF I (L.take k)))) ∧ Hid (Below w.heap.size w wr)) (fun _ i _ => L.length - (intOf i).toNat)
  case atStart => exact ⟨0, _, rfl, Nat.zero_le _, rfl, World.ownsRow_nil _ _ _ _, Below.refl _ _⟩
  case round =>
    obtain ⟨k, sl, rfl, hk, rfl, HO, HB⟩ := hrel
    have hws : w.heap.size ≤ wr.heap.size := HB.out.size
    by_cases hlt : k < L.length
    · obtain ⟨g, rfl, hgw, hc⟩ := HG.out (by omega)
      have k0 : (0 : Int) ≤ k := by omega
      have k1 : (k : Int) < L.length := by omega
      have KC0 := KC.out k hlt
      have KI0 : Hid (∀ W, Below w.heap.size w W → Calls Tryd.prog 56 #[sv, .int .i64 (atF L k).id] W fun e w' => e = .returned (.bool (I.contains (atF L k).id)) ∧ w' = W) := fun W hb => KI.out _ W hb
      have c0 : wr.cell? ⟨g, k * 9, none⟩ = some (.int .i64 (atF L k).id) := by rw [(bcell HB.out).1 _ _ hgw]; exact hc k hlt 0 (by omega)
      have c1 : wr.cell? ⟨g, k * 9 + 1, none⟩ = some (.int .i64 (atF L k).pa) := by rw [(bcell HB.out).1 _ _ hgw]; exact hc k hlt 1 (by omega)
      have c2 : wr.cell? ⟨g, k * 9 + 2, none⟩ = some (.string (atF L k).sc) := by rw [(bcell HB.out).1 _ _ hgw]; exact hc k hlt 2 (by omega)
      have c3 : wr.cell? ⟨g, k * 9 + 3, none⟩ = some (.string (atF L k).ho) := by rw [(bcell HB.out).1 _ _ hgw]; exact hc k hlt 3 (by omega)
      have c4 : wr.cell? ⟨g, k * 9 + 4, none⟩ = some (.int .i64 (atF L k).po) := by rw [(bcell HB.out).1 _ _ hgw]; exact hc k hlt 4 (by omega)
      have c5 : wr.cell? ⟨g, k * 9 + 5, none⟩ = some (.string (atF L k).pt) := by rw [(bcell HB.out).1 _ _ hgw]; exact hc k hlt 5 (by omega)
      have c6 : wr.cell? ⟨g, k * 9 + 6, none⟩ = some (.bool (atF L k).sb) := by rw [(bcell HB.out).1 _ _ hgw]; exact hc k hlt 6 (by omega)
      have c7 : wr.cell? ⟨g, k * 9 + 7, none⟩ = some (.bool (atF L k).fl) := by rw [(bcell HB.out).1 _ _ hgw]; exact hc k hlt 7 (by omega)
      have c8 : wr.cell? ⟨g, k * 9 + 8, none⟩ = some (.int .i64 (atF L k).tc) := by rw [(bcell HB.out).1 _ _ hgw]; exact hc k hlt 8 (by omega)
      have HYes : Hid (I.contains (atF L k).id = true → withF I (L.take (k + 1)) = withF I (L.take k)) := fun h => by rw [HST.out k hlt, if_pos h]
      have HNo : Hid (I.contains (atF L k).id = false → withF I (L.take (k + 1)) = withF I (L.take k) ++ [atF L k]) := fun h => by rw [HST.out k hlt, if_neg (by rw [h]; decide)]
      have hle := HLE.out k
      clear hc
      generalize hct : I.contains (atF L k).id = ct at *
      clear hct
      generalize atF L k = y at *
      generalize hY2 : withF I (L.take (k + 1)) = Y2 at *
      generalize withF I (L.take k) = Y at *
      generalize hm : Y.length = m at *
      have HM : Hid (Y.length = m) := hm
      clear hm
      obtain ⟨yid, ypa, ysc, yho, ypo, ypt, ysb, yfl, ytc⟩ := y
      unfold frV at KC0
      dsimp only at *
      have KC1 : Hid (∀ W, Calls Tryd.prog 57 #[.agg #[.int .i64 yid, .int .i64 ypa, .string ysc, .string yho, .int .i64 ypo, .string ypt, .bool ysb, .bool yfl, .int .i64 ytc]] W fun e w' => e = .returned (.agg #[.int .i64 yid, .int .i64 ypa, .string ysc, .string yho, .int .i64 ypo, .string ypt, .bool ysb, .bool yfl, .int .i64 ytc]) ∧ Below W.heap.size W w') := KC0
      clear KC0
      obtain ⟨W0, hW⟩ : ∃ W0, W0 = wr.alloc (.cells #[.int .i64 yid, .int .i64 ypa, .string ysc, .string yho, .int .i64 ypo, .string ypt, .bool ysb, .bool yfl, .int .i64 ytc] 54) := ⟨_, rfl⟩
      have hW0 : Hid (W0 = wr.alloc (.cells #[.int .i64 yid, .int .i64 ypa, .string ysc, .string yho, .int .i64 ypo, .string ypt, .bool ysb, .bool yfl, .int .i64 ytc] 54)) := hW
      have HBr : Hid (Below wr.heap.size wr W0) := by show Below _ _ _; rw [hW]; exact (Below.refl _ _).alloc (Nat.le_refl _) _
      have n0 : W0.cell? ⟨wr.heap.size, 0, none⟩ = some (.int .i64 yid) := by rw [hW]; simp
      have n1 : W0.cell? ⟨wr.heap.size, 1, none⟩ = some (.int .i64 ypa) := by rw [hW]; simp
      have n2 : W0.cell? ⟨wr.heap.size, 2, none⟩ = some (.string ysc) := by rw [hW]; simp
      have n3 : W0.cell? ⟨wr.heap.size, 3, none⟩ = some (.string yho) := by rw [hW]; simp
      have n4 : W0.cell? ⟨wr.heap.size, 4, none⟩ = some (.int .i64 ypo) := by rw [hW]; simp
      have n5 : W0.cell? ⟨wr.heap.size, 5, none⟩ = some (.string ypt) := by rw [hW]; simp
      have n6 : W0.cell? ⟨wr.heap.size, 6, none⟩ = some (.bool ysb) := by rw [hW]; simp
      have n7 : W0.cell? ⟨wr.heap.size, 7, none⟩ = some (.bool yfl) := by rw [hW]; simp
      have n8 : W0.cell? ⟨wr.heap.size, 8, none⟩ = some (.int .i64 ytc) := by rw [hW]; simp
      have hbW : wr.heap.size < W0.heap.size := by rw [hW]; simp
      clear hW
      go_upto_region 5 with fail
      rw [← hW0.out]
      clear hW0 c0 c1 c2 c3 c4 c5 c6 c7 c8
      generalize hbb : wr.heap.size = b at *
      go_wp2_with fail
      refine (KI0.out _ (HB.out.trans (by rw [← hbb] at HBr; exact HBr.out.mono HB.out.size))).mono ?_
      rintro e w2 ⟨rfl, e2⟩
      subst e2
      cases ct with
      | true =>
        have O5 : Hid (w2.ownsRow w.heap.size 54 9 sl Y2.length (frCells Y2)) := by
          show World.ownsRow _ _ _ _ _ _ _
          rw [HYes.out rfl, HM.out]
          exact ownR_below HO.out (by rw [hbb]; exact HBr.out)
        have B5 : Hid (Below w.heap.size w w2) := HB.out.trans (by rw [← hbb] at HBr; exact HBr.out.mono HB.out.size)
        clear HYes HNo KC1 KI0 n0 n1 n2 n3 n4 n5 n6 n7 n8 HO HB HBr
        go_wp2
        go_roundw
        case rel => exact ⟨k + 1, _, rfl, by omega, by go_num, by rw [hY2]; exact O5, B5⟩
        case measure => simp [intOf]; omega
      | false =>
        have HY2 : Hid (Y2 = Y ++ [⟨yid, ypa, ysc, yho, ypo, ypt, ysb, yfl, ytc⟩]) := HNo.out rfl
        clear HYes HNo KI0
        go_wp2_with fail
        refine (KC1.out _).mono ?_
        rintro e w3 ⟨rfl, hb3⟩
        have A3 : Below b wr w3 := HBr.out.trans (hb3.mono (Nat.le_of_lt hbW))
        have O4 : Hid (w3.ownsRow w.heap.size 54 9 _ m (frCells Y)) := ownR_below HO.out (by rw [hbb]; exact A3)
        have B3 : Hid (Below w.heap.size w w3) := HB.out.trans (by rw [← hbb] at A3; exact A3.mono HB.out.size)
        have hw3 : w.heap.size ≤ w3.heap.size := B3.out.size
        clear hb3 A3 HO HB HBr n0 n1 n2 n3 n4 n5 n6 n7 n8
        go_wp2_with (at_builtin; go_must (refine wpList_append_own _ rfl _ _ 29 rfl w.heap.size 54 i0 (.agg #[.int .i64 0, .int .i64 0, .string ⟨#[]⟩, .string ⟨#[]⟩, .int .i64 0, .string ⟨#[]⟩, .bool false, .bool false, .int .i64 0]) 9 88 Tryd.underlying29 hi hy0 hy1 hy2 rfl (by decide) _ _ _ rfl (O4.out.alloc _) ⟨w3.heap.size, 0, none⟩ 1 1 (frVals ⟨yid, ypa, ysc, yho, ypo, ypt, ysb, yfl, ytc⟩) rfl rfl (cell_Fr _ ⟨yid, ypa, ysc, yho, ypo, ypt, ysb, yfl, ytc⟩ _) (one_Fr ⟨yid, ypa, ysc, yho, ypo, ypt, ysb, yfl, ytc⟩) (by unfold maxLen; omega) (by omega) (by simp; omega) ?_))
        intro v1 w4 ho1 hg1 hn1
        have hb4 : Below w.heap.size w w4 := (B3.out.alloc B3.out.size _).grown hg1 (Nat.le_trans B3.out.size (by simp)) (fun j hj => own_base O4.out j hj)
        have O5 : Hid (w4.ownsRow w.heap.size 54 9 v1 Y2.length (frCells Y2)) := by
          show World.ownsRow _ _ _ _ _ _ _
          rw [HY2.out, ← HSN.out, List.length_append, HM.out]
          exact ho1
        have B4 : Hid (Below w.heap.size w w4) := hb4
        clear ho1 hg1 hn1 hb4
        go_wp2
        go_roundw
        case rel => exact ⟨k + 1, _, rfl, by omega, by go_num, by rw [hY2]; exact O5, B4⟩
        case measure => simp [intOf]; omega
    · obtain rfl : k = L.length := by omega
      have O5 : Hid (wr.ownsRow w.heap.size 54 9 sl (withF I L).length (frCells (withF I L))) := by
        have h := HO.out
        rw [List.take_length] at h
        exact h
      go_wp2
      go_ret
      exact ⟨_, rfl, O5.out, HB.out⟩
end Go.Proofs.YtclpamjgglfljaaDoor

/- The walk of the program's heldBy. Written by implheld9.py. -/
namespace Go.Proofs.YtclpamjgglfljaaDoor
open Go.RowKit

/-- the Ids of those that lie in a frame and in nothing between -/
def heldF (L : List Fr) (id : Int) : List Int := (L.filter (fun f => f.pa == id)).map (fun f => f.id)
def intsV (I : List Int) : List Value := I.map (fun i => Value.int .i64 i)
theorem heldF_len (L : List Fr) (id : Int) : (heldF L id).length ≤ L.length := by unfold heldF; rw [List.length_map]; exact List.length_filter_le _ _
theorem heldF_step {L : List Fr} {k : Nat} (hk : k < L.length) (id : Int) : heldF (L.take (k + 1)) id = if ((atF L k).pa == id) = true then heldF (L.take k) id ++ [(atF L k).id] else heldF (L.take k) id := by
  unfold heldF
  rw [List.take_succ_eq_append_getElem hk, List.filter_append, ← atF_get hk, List.map_append]
  cases h : ((atF L k).pa == id) with
  | true => rw [if_pos rfl, List.filter_cons_of_pos (p := fun f : Fr => f.pa == id) h, List.filter_nil]; rfl
  | false => rw [if_neg (by decide), List.filter_cons_of_neg (p := fun f : Fr => f.pa == id) (by rw [h]; decide), List.filter_nil, List.map_nil, List.append_nil]
theorem infoInt9 : (Tryd.prog.info? 2).map (fun i => (i.zero, i.size, i.bytes)) = some (some (.int .i64 0), 1, 8) := by kernel_rfl
theorem cell_one9 (w : World) (v : Value) (t : TypeId) : ∀ j u, [v][j]? = some u → (w.alloc (.cells #[v] t)).cell? ((⟨w.heap.size, 0, none⟩ : Addr).add j) = some u := by
  intro j u h
  have e : (⟨w.heap.size, 0, none⟩ : Addr).add j = ⟨w.heap.size, j, none⟩ := by unfold Addr.add; split <;> simp_all
  rw [e, World.cell?_alloc_new, ← Array.getElem?_toList]
  exact h
set_option maxRecDepth 10000 in
set_option maxHeartbeats 8000000 in
theorem heldBy_any (v : Value) (L : List Fr) (B : Nat) (id : Int) (w : World) (hs : SliceF w B v L) (hn : L.length ≤ 1000) :
    Calls Tryd.prog 35 #[v, .int .i64 id] w fun e w' => ∃ v', e = .returned v' ∧ w'.ownsRow w.heap.size 2 1 v' (heldF L id).length (intsV (heldF L id)) ∧ Below w.heap.size w w' := by
  have HST : Hid (∀ k, k < L.length → heldF (L.take (k + 1)) id = if ((atF L k).pa == id) = true then heldF (L.take k) id ++ [(atF L k).id] else heldF (L.take k) id) := fun k hk => heldF_step hk id
  have HLE : Hid (∀ k, (heldF (L.take k) id).length ≤ k) := fun k => Nat.le_trans (heldF_len _ _) (by rw [List.length_take]; omega)
  obtain ⟨i0, hi, hy0, hy1, hy2⟩ := info_parts infoInt9
  obtain ⟨⟨q, cap, rfl, hg⟩, -⟩ := hs
  have HG : Hid (0 < L.length → ∃ g, q = some ⟨g, 0, none⟩ ∧ g < w.heap.size ∧ ∀ j, j < L.length → ∀ o, o < 9 → w.cell? ⟨g, j * 9 + o, none⟩ = some (frC (atF L j) o)) := fun h0 => by
    obtain ⟨g, e, -, hgw, hc⟩ := hg h0
    exact ⟨g, e, hgw, fun j hj o ho => (hc j hj o ho).1⟩
  clear hg
  go_enter Tryd.func35, Tryd.ntmps35
  go_wp2
  go_loopw [5, 10] (fun stv i wr => ∃ (k : Nat) (sl : Value), sl = stv ∧ k ≤ L.length ∧ i = .int .i64 k ∧ Hid (wr.ownsRow w.heap.size 2 1 sl (heldF (L.take k) id).length (intsV (heldF (L.take k) id))) ∧ Hid (Below w.heap.size w wr)) (fun _ i _ => L.length - (intOf i).toNat)
  case atStart => exact ⟨0, _, rfl, Nat.zero_le _, rfl, World.ownsRow_nil _ _ _ _, Below.refl _ _⟩
  case round =>
    obtain ⟨k, sl, rfl, hk, rfl, HO, HB⟩ := hrel
    have hws : w.heap.size ≤ wr.heap.size := HB.out.size
    by_cases hlt : k < L.length
    · obtain ⟨g, rfl, hgw, hc⟩ := HG.out (by omega)
      have k0 : (0 : Int) ≤ k := by omega
      have k1 : (k : Int) < L.length := by omega
      have c0 : wr.cell? ⟨g, k * 9, none⟩ = some (.int .i64 (atF L k).id) := by rw [(bcell HB.out).1 _ _ hgw]; exact hc k hlt 0 (by omega)
      have c1 : wr.cell? ⟨g, k * 9 + 1, none⟩ = some (.int .i64 (atF L k).pa) := by rw [(bcell HB.out).1 _ _ hgw]; exact hc k hlt 1 (by omega)
      have c2 : wr.cell? ⟨g, k * 9 + 2, none⟩ = some (.string (atF L k).sc) := by rw [(bcell HB.out).1 _ _ hgw]; exact hc k hlt 2 (by omega)
      have c3 : wr.cell? ⟨g, k * 9 + 3, none⟩ = some (.string (atF L k).ho) := by rw [(bcell HB.out).1 _ _ hgw]; exact hc k hlt 3 (by omega)
      have c4 : wr.cell? ⟨g, k * 9 + 4, none⟩ = some (.int .i64 (atF L k).po) := by rw [(bcell HB.out).1 _ _ hgw]; exact hc k hlt 4 (by omega)
      have c5 : wr.cell? ⟨g, k * 9 + 5, none⟩ = some (.string (atF L k).pt) := by rw [(bcell HB.out).1 _ _ hgw]; exact hc k hlt 5 (by omega)
      have c6 : wr.cell? ⟨g, k * 9 + 6, none⟩ = some (.bool (atF L k).sb) := by rw [(bcell HB.out).1 _ _ hgw]; exact hc k hlt 6 (by omega)
      have c7 : wr.cell? ⟨g, k * 9 + 7, none⟩ = some (.bool (atF L k).fl) := by rw [(bcell HB.out).1 _ _ hgw]; exact hc k hlt 7 (by omega)
      have c8 : wr.cell? ⟨g, k * 9 + 8, none⟩ = some (.int .i64 (atF L k).tc) := by rw [(bcell HB.out).1 _ _ hgw]; exact hc k hlt 8 (by omega)
      have HYes : Hid (((atF L k).pa == id) = true → heldF (L.take (k + 1)) id = heldF (L.take k) id ++ [(atF L k).id]) := fun h => by rw [HST.out k hlt, if_pos h]
      have HNo : Hid (((atF L k).pa == id) = false → heldF (L.take (k + 1)) id = heldF (L.take k) id) := fun h => by rw [HST.out k hlt, if_neg (by rw [h]; decide)]
      have hle := HLE.out k
      clear hc
      generalize atF L k = y at *
      generalize hY2 : heldF (L.take (k + 1)) id = Y2 at *
      generalize heldF (L.take k) id = Y at *
      generalize hm : Y.length = m at *
      have HM : Hid (Y.length = m) := hm
      clear hm
      obtain ⟨yid, ypa, ysc, yho, ypo, ypt, ysb, yfl, ytc⟩ := y
      dsimp only at *
      cases hq : (ypa == id) with
      | false =>
        have O5 : Hid ((wr.alloc (.cells #[.int .i64 yid, .int .i64 ypa, .string ysc, .string yho, .int .i64 ypo, .string ypt, .bool ysb, .bool yfl, .int .i64 ytc] 54)).ownsRow w.heap.size 2 1 sl Y2.length (intsV Y2)) := by
          show World.ownsRow _ _ _ _ _ _ _
          rw [HNo.out hq, HM.out]
          exact HO.out.alloc _
        have B5 : Hid (Below w.heap.size w (wr.alloc (.cells #[.int .i64 yid, .int .i64 ypa, .string ysc, .string yho, .int .i64 ypo, .string ypt, .bool ysb, .bool yfl, .int .i64 ytc] 54))) := HB.out.alloc hws _
        clear HYes HNo HO
        go_wp2
        go_roundw
        case rel => exact ⟨k + 1, _, rfl, by omega, by go_num, by rw [hY2]; exact O5, B5⟩
        case measure => simp [intOf]; omega
      | true =>
        have HY2 : Hid (Y2 = Y ++ [yid]) := HYes.out hq
        have hcN : Hid (∀ j u, [Value.int .i64 yid][j]? = some u → ((wr.alloc (.cells #[.int .i64 yid, .int .i64 ypa, .string ysc, .string yho, .int .i64 ypo, .string ypt, .bool ysb, .bool yfl, .int .i64 ytc] 54)).alloc (.cells #[.int .i64 yid] 2)).cell? ((⟨wr.heap.size + 1, 0, none⟩ : Addr).add j) = some u) := by
          have h := cell_one9 (wr.alloc (.cells #[.int .i64 yid, .int .i64 ypa, .string ysc, .string yho, .int .i64 ypo, .string ypt, .bool ysb, .bool yfl, .int .i64 ytc] 54)) (.int .i64 yid) 2
          rw [World.size_alloc] at h
          exact h
        clear HYes HNo
        go_wp2_with (at_builtin; go_must (refine wpList_append_own _ rfl _ _ 58 rfl w.heap.size 2 i0 (.int .i64 0) 1 8 Tryd.underlying58 hi hy0 hy1 hy2 rfl (by decide) _ _ _ rfl ((HO.out.alloc _).alloc _) ⟨wr.heap.size + 1, 0, none⟩ 1 1 [.int .i64 yid] rfl rfl hcN.out (by intro v h; rw [List.mem_singleton] at h; subst h; rfl) (by unfold maxLen; omega) (by omega) (by simp; omega) ?_))
        intro v1 w4 ho1 hg1 hn1
        have hb4 : Below w.heap.size w w4 := ((HB.out.alloc HB.out.size _).alloc (by simp; omega) _).grown hg1 (by simp; omega) (fun j hj => own_base HO.out j hj)
        have O5 : Hid (w4.ownsRow w.heap.size 2 1 v1 Y2.length (intsV Y2)) := by
          show World.ownsRow _ _ _ _ _ _ _
          rw [HY2.out, List.length_append, HM.out]
          unfold intsV
          rw [List.map_append]
          exact ho1
        have B4 : Hid (Below w.heap.size w w4) := hb4
        clear ho1 hg1 hn1 hb4 c0 c1 c2 c3 c4 c5 c6 c7 c8 HO hcN
        go_wp2
        go_roundw
        case rel => exact ⟨k + 1, _, rfl, by omega, by go_num, by rw [hY2]; exact O5, B4⟩
        case measure => simp [intOf]; omega
    · have hkL : k = L.length := by omega
      subst hkL
      have O5 : Hid (wr.ownsRow w.heap.size 2 1 sl (heldF L id).length (intsV (heldF L id))) := by
        show World.ownsRow _ _ _ _ _ _ _
        have h := HO.out
        rw [List.take_length] at h
        exact h
      clear HO
      go_wp2
      go_ret
      exact ⟨_, rfl, O5.out, HB.out⟩
end Go.Proofs.YtclpamjgglfljaaDoor
