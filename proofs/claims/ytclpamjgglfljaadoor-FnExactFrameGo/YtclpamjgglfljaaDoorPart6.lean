/- 9 of this claim's texts, one behind the other. -/
import Derived.Test.YtclpamjgglfljaaDoorPart5
import Derived.Test.YtclpamjgglfljaaDoorPart2
import Derived.Laws.StructEq
import Derived.Test.YtclpamjgglfljaaDoorPart3
import Derived.Lib.IndexAny
/- Where a frame goes, plainly: what it held is shut, it itself stays. -/
namespace Go.Proofs.YtclpamjgglfljaaDoor
open Go.RowKit

theorem way_small {L : List Fr} (h : framesB L = true) : ∀ k, k < L.length → ∀ f ∈ wayF L (atF L k).id, (∃ j, j ≤ k ∧ f = atF L j) ∧ whF L f.pa < (k : Int) := by
  intro k
  induction k using Nat.strongRecOn with
  | ind k ih =>
    intro hk f hf
    rw [wayF_here h (here_at h hk).1, (here_at h hk).2] at hf
    rcases List.mem_cons.1 hf with rfl | hf
    · refine ⟨⟨k, Nat.le_refl _, rfl⟩, ?_⟩
      by_cases hp : (atF L k).pa = 0
      · rw [hp]
        have h0 := zero_away h
        unfold hereF at h0
        rw [decide_eq_false_iff_not] at h0
        omega
      · obtain ⟨j, hj, e, -⟩ := parent_here h hk hp
        rw [e]; omega
    · by_cases hp : (atF L k).pa = 0
      · rw [hp, wayF_none (zero_away h)] at hf
        exact absurd hf (by simp)
      · obtain ⟨j, hj, -, e⟩ := parent_here h hk hp
        rw [← e] at hf
        obtain ⟨⟨i, hi, e1⟩, h2⟩ := ih j hj (by omega) f hf
        exact ⟨⟨i, by omega, e1⟩, by omega⟩
/-- no frame lies in itself -/
theorem in_self_no {L : List Fr} (h : framesB L = true) {id : Int} (hh : hereF L id = true) : inF L id id = false := by
  obtain ⟨k, hk, ew, -, ei⟩ := here_wh hh
  rw [Bool.eq_false_iff]
  intro hc
  unfold inF at hc
  rw [List.any_eq_true] at hc
  obtain ⟨f, hf, hp⟩ := hc
  have hf' : f ∈ wayF L (atF L k).id := by rw [ei]; exact hf
  have h2 := (way_small h k hk f hf').2
  rw [beq_iff_eq] at hp
  rw [hp, ew] at h2
  omega
theorem same_id {L : List Fr} (h : framesB L = true) {i j : Nat} (hi : i < L.length) (hj : j < L.length) (e : (atF L i).id = (atF L j).id) : atF L i = atF L j := by
  have a := (getF_at (ids_of h) hi).2
  rw [e, (getF_at (ids_of h) hj).2] at a
  exact a.symm
/-- what lies in one that a frame holds lies in it -/
theorem takes_held {L : List Fr} (h : framesB L = true) (id : Int) {k : Nat} (hk : k < L.length) : takesF L (heldF L id) (atF L k).id = inF L (atF L k).id id := by
  unfold takesF inF
  rw [Bool.eq_iff_iff, List.any_eq_true, List.any_eq_true]
  constructor
  · rintro ⟨g, hg, hc⟩
    refine ⟨g, hg, ?_⟩
    obtain ⟨⟨j, hj, rfl⟩, -⟩ := way_small h k hk g hg
    rw [List.contains_iff_mem] at hc
    unfold heldF at hc
    rw [List.mem_map] at hc
    obtain ⟨x, hx, e⟩ := hc
    rw [List.mem_filter] at hx
    obtain ⟨i, hi, hxi⟩ := List.mem_iff_getElem.1 hx.1
    rw [← atF_get hi] at hxi
    rw [← hxi] at e hx
    rw [← same_id h hi (by omega) e]
    exact hx.2
  · rintro ⟨g, hg, hp⟩
    refine ⟨g, hg, ?_⟩
    obtain ⟨⟨j, hj, rfl⟩, -⟩ := way_small h k hk g hg
    rw [List.contains_iff_mem]
    unfold heldF
    refine List.mem_map.2 ⟨atF L j, List.mem_filter.2 ⟨?_, hp⟩, rfl⟩
    rw [atF_get (by omega)]
    exact List.getElem_mem _
theorem withF_inner {L : List Fr} (h : framesB L = true) (id : Int) : withF (shutI L (heldF L id) L.length) L = innerF L id := by
  rw [withF_shut]
  unfold innerF
  refine List.filter_congr fun f hf => ?_
  obtain ⟨k, hk, rfl⟩ := List.mem_iff_getElem.1 hf
  rw [← atF_get hk, takes_held h id hk]
/-- who goes stays among those that stay -/
theorem inner_here {L : List Fr} (h : framesB L = true) {id : Int} (hh : hereF L id = true) : ∃ k, k < (innerF L id).length ∧ whF (innerF L id) id = (k : Int) ∧ atF (innerF L id) k = getF L id := by
  obtain ⟨k0, hk0, ew, eg, ei⟩ := here_wh hh
  have hm : atF L k0 ∈ innerF L id := by
    unfold innerF
    refine List.mem_filter.2 ⟨by rw [atF_get hk0]; exact List.getElem_mem _, ?_⟩
    rw [ei, in_self_no h hh]; rfl
  rcases whF_cases (innerF L id) id with ⟨k, hk, e, e1, -⟩ | ⟨e, hn⟩
  · refine ⟨k, hk, e, ?_⟩
    have hmk : atF (innerF L id) k ∈ L := by
      rw [atF_get hk]
      exact (List.mem_filter.1 (List.getElem_mem hk)).1
    obtain ⟨i, hi, hxi⟩ := List.mem_iff_getElem.1 hmk
    rw [← atF_get hi] at hxi
    rw [eg, ← hxi]
    exact same_id h hi hk0 (by rw [hxi, e1, ei])
  · exfalso
    obtain ⟨j, hj, hxj⟩ := List.mem_iff_getElem.1 hm
    rw [← atF_get hj] at hxj
    exact hn j hj (by rw [hxj, ei])
/-- a frame as it is when it has gone to a url -/
def wentF (f : Fr) (sc ho pt : ByteArray) (po : Int) : Fr := ⟨f.id, f.pa, sc, ho, po, pt, f.sb, f.fl && sameF f.sc f.ho f.po 0 sc ho po 0, 0⟩
/-- the frames behind it -/
def goL (L : List Fr) (id : Int) (sc ho pt : ByteArray) (po : Int) : List Fr := (innerF L id).set (whF (innerF L id) id).toNat (wentF (getF L id) sc ho pt po)
/-- FrameGo as a plain function -/
def goF (L : List Fr) (n : Nat) (f : Nat → ByteArray) (id : Int) (sc ho pt : ByteArray) (po : Int) : FO :=
  if 400 < L.length ∨ 400 < n then ⟨[], 0, 2⟩
  else if (framesB L && rulesB n f && urlB sc ho pt po) = false then ⟨[], 0, 1⟩
  else if hereF L id = false then ⟨[], 0, 6⟩
  else ⟨goL L id sc ho pt po, id, 0⟩
theorem goF_size {L : List Fr} {n : Nat} {f : Nat → ByteArray} {id : Int} {sc ho pt : ByteArray} {po : Int} (h : 400 < L.length ∨ 400 < n) : goF L n f id sc ho pt po = ⟨[], 0, 2⟩ := by unfold goF; rw [if_pos h]
theorem goF_form {L : List Fr} {n : Nat} {f : Nat → ByteArray} {id : Int} {sc ho pt : ByteArray} {po : Int} (h : ¬ (400 < L.length ∨ 400 < n)) (h1 : (framesB L && rulesB n f && urlB sc ho pt po) = false) : goF L n f id sc ho pt po = ⟨[], 0, 1⟩ := by unfold goF; rw [if_neg h, if_pos h1]
theorem goF_none {L : List Fr} {n : Nat} {f : Nat → ByteArray} {id : Int} {sc ho pt : ByteArray} {po : Int} (h : ¬ (400 < L.length ∨ 400 < n)) (h1 : (framesB L && rulesB n f && urlB sc ho pt po) = true) (h2 : hereF L id = false) : goF L n f id sc ho pt po = ⟨[], 0, 6⟩ := by unfold goF; rw [if_neg h, if_neg (by rw [h1]; decide), if_pos h2]
theorem goF_ok {L : List Fr} {n : Nat} {f : Nat → ByteArray} {id : Int} {sc ho pt : ByteArray} {po : Int} (h : ¬ (400 < L.length ∨ 400 < n)) (h1 : (framesB L && rulesB n f && urlB sc ho pt po) = true) (h2 : hereF L id = true) : goF L n f id sc ho pt po = ⟨goL L id sc ho pt po, id, 0⟩ := by unfold goF; rw [if_neg h, if_neg (by rw [h1]; decide), if_neg (by rw [h2]; decide)]
theorem goF_len (L : List Fr) (n : Nat) (f : Nat → ByteArray) (id : Int) (sc ho pt : ByteArray) (po : Int) : (goF L n f id sc ho pt po).ar.length ≤ 11 := by
  unfold goF
  split
  · exact Nat.zero_le _
  · split
    · exact Nat.zero_le _
    · rename_i h1
      split
      · exact Nat.zero_le _
      · show (goL L id sc ho pt po).length ≤ 11
        unfold goL
        rw [List.length_set]
        have h2 : framesB L = true := by
          cases e : framesB L with
          | true => rfl
          | false => rw [e] at h1; exact absurd rfl h1
        have h3 := (framesB_parts h2).1
        have h4 : (innerF L id).length ≤ L.length := List.length_filter_le _ _
        omega
end Go.Proofs.YtclpamjgglfljaaDoor

/- One frame of a list written over. -/
namespace Go.Proofs.YtclpamjgglfljaaDoor
open Go.RowKit

theorem at_inj {sz j k o o' : Nat} (ho : o < sz) (ho' : o' < sz) (e : j * sz + o = k * sz + o') : j = k ∧ o = o' := by
  rcases Nat.lt_trichotomy j k with h | h | h
  · have h1 := Nat.mul_le_mul_right sz (show j + 1 ≤ k from h)
    rw [Nat.succ_mul] at h1
    omega
  · subst h; exact ⟨rfl, by omega⟩
  · have h1 := Nat.mul_le_mul_right sz (show k + 1 ≤ j from h)
    rw [Nat.succ_mul] at h1
    omega
theorem SliceR.setAt {w : World} {B sz n m cap g : Nat} {f : Nat → Nat → Value} (h : SliceR w B sz (.slice (some ⟨g, 0, none⟩) m cap) n f) {k o : Nat} (hk : k < n) (ho : o < sz) (u : Value) :
    SliceR (w.setCell ⟨g, k * sz + o, none⟩ u) B sz (.slice (some ⟨g, 0, none⟩) m cap) n (fun j o' => if j = k ∧ o' = o then u else f j o') := by
  obtain ⟨p, cap', e, h⟩ := h
  refine ⟨p, cap', e, fun hn => ?_⟩
  obtain ⟨g', rfl, hB, hg, hc⟩ := h hn
  have e2 : g = g' := by injection e with e; injection e with e; injection e
  subst e2
  refine ⟨g, rfl, hB, by simpa [World.setCell] using hg, fun j hj o' ho' => ⟨?_, (World.frozen?_setCell _ _ _ _).trans (hc j hj o' ho').2⟩⟩
  dsimp only
  by_cases hjo : j = k ∧ o' = o
  · obtain ⟨rfl, rfl⟩ := hjo
    rw [if_pos ⟨rfl, rfl⟩]
    exact World.cell?_setCell_same _ _ _ (hc j hj o' ho').1
  · rw [if_neg hjo, World.cell?_setCell_other _ _ _ _ (fun e' => hjo (by injection e' with _ e'; first | exact at_inj ho' ho e' | exact at_inj ho' ho e'.symm))]
    exact (hc j hj o' ho').1
/-- nine cells written, from an offset on -/
def put9 (w : World) (g b : Nat) (y : Fr) : World :=
  ((((((((w.setCell ⟨g, b, none⟩ (.int .i64 y.id)).setCell ⟨g, b + 1, none⟩ (.int .i64 y.pa)).setCell ⟨g, b + 2, none⟩ (.string y.sc)).setCell ⟨g, b + 3, none⟩ (.string y.ho)).setCell ⟨g, b + 4, none⟩ (.int .i64 y.po)).setCell ⟨g, b + 5, none⟩ (.string y.pt)).setCell ⟨g, b + 6, none⟩ (.bool y.sb)).setCell ⟨g, b + 7, none⟩ (.bool y.fl)).setCell ⟨g, b + 8, none⟩ (.int .i64 y.tc)
theorem atF_set (M : List Fr) (k j : Nat) (y : Fr) (hk : k < M.length) : atF (M.set k y) j = if j = k then y else atF M j := by
  unfold atF
  by_cases e : j = k
  · subst e; simp [List.getD_eq_getElem?_getD, List.getElem?_set_self hk]
  · rw [if_neg e]
    simp [List.getD_eq_getElem?_getD, List.getElem?_set_ne (fun e' => e e'.symm)]
theorem SliceF.put9 {w : World} {B cap g : Nat} {M : List Fr} (h : SliceF w B (.slice (some ⟨g, 0, none⟩) M.length cap) M) {k : Nat} (hk : k < M.length) (y : Fr) : SliceF (put9 w g (k * 9) y) B (.slice (some ⟨g, 0, none⟩) M.length cap) (M.set k y) := by
  obtain ⟨h1, p, c, e, h2, h3⟩ := h
  have q := ((((((((h1.setAt hk (show 0 < 9 by omega) (.int .i64 y.id)).setAt hk (show 1 < 9 by omega) (.int .i64 y.pa)).setAt hk (show 2 < 9 by omega) (.string y.sc)).setAt hk (show 3 < 9 by omega) (.string y.ho)).setAt hk (show 4 < 9 by omega) (.int .i64 y.po)).setAt hk (show 5 < 9 by omega) (.string y.pt)).setAt hk (show 6 < 9 by omega) (.bool y.sb)).setAt hk (show 7 < 9 by omega) (.bool y.fl)).setAt hk (show 8 < 9 by omega) (.int .i64 y.tc)
  refine ⟨?_, p, c, by rw [List.length_set]; exact e, by rw [List.length_set]; exact h2, h3⟩
  rw [List.length_set]
  refine SliceR.congr q (fun j hj o ho => ?_)
  unfold frR
  rw [atF_set M k j y hk]
  by_cases e : j = k
  · subst e
    rw [if_pos rfl]
    match o, ho with
    | 0, _ => simp [frC]
    | 1, _ => simp [frC]
    | 2, _ => simp [frC]
    | 3, _ => simp [frC]
    | 4, _ => simp [frC]
    | 5, _ => simp [frC]
    | 6, _ => simp [frC]
    | 7, _ => simp [frC]
    | 8, _ => simp [frC]
  · simp [e]
theorem put9_below {w : World} {B g b : Nat} {A : World} {y : Fr} (h : Below B A w) (hg : B ≤ g) : Below B A (put9 w g b y) :=
  Below.setCell (Below.setCell (Below.setCell (Below.setCell (Below.setCell (Below.setCell (Below.setCell (Below.setCell (Below.setCell h hg _) hg _) hg _) hg _) hg _) hg _) hg _) hg _) hg _
theorem put9_size (w : World) (g b : Nat) (y : Fr) : (put9 w g b y).heap.size = w.heap.size := by simp [put9, World.setCell]
theorem put9_other (w : World) (g b : Nat) (y : Fr) (k : Nat) (hk : k ≠ g) : (put9 w g b y).heap[k]? = w.heap[k]? := by
  unfold put9
  repeat rw [Below.heap_setCell _ _ _ _ hk]
end Go.Proofs.YtclpamjgglfljaaDoor

/- The walks of the specification's l09Go and FrameGo. Written by specgo.py. -/
namespace Go.Proofs.YtclpamjgglfljaaDoor
open Go.RowKit

theorem SliceF.offG {w : World} {B m c g : Nat} {L : List Fr} (h : SliceF w B (.slice (some ⟨g, 0, none⟩) m c) L) {b : Nat} (hb : b ≠ g) (o : Nat) (u : Value) : SliceF (w.setCell ⟨b, o, none⟩ u) B (.slice (some ⟨g, 0, none⟩) m c) L := by
  obtain ⟨⟨p, cap, e, h1⟩, h2⟩ := h
  refine ⟨⟨p, cap, e, fun hn => ?_⟩, h2⟩
  obtain ⟨g', e', hB, hg, hc⟩ := h1 hn
  have e2 : g = g' := by injection e with e; rw [e'] at e; injection e with e; injection e
  subst e2
  have hk : (w.setCell ⟨b, o, none⟩ u).heap[g]? = w.heap[g]? := Below.heap_setCell _ _ _ _ (by show g ≠ b; omega)
  exact ⟨g, e', hB, by simpa [World.setCell] using hg, fun j hj o' ho => ⟨(World.cell?_of_block (a := ⟨g, j * 9 + o', none⟩) hk).trans (hc j hj o' ho).1, (World.frozen?_of_block (a := ⟨g, j * 9 + o', none⟩) hk).trans (hc j hj o' ho).2⟩⟩
theorem SliceF.drewG {w : World} {B : Nat} {v : Value} {L : List Fr} (h : SliceF w B v L) : SliceF w.drew B v L := h.below (Below.drew (Below.refl _ _))
set_option maxRecDepth 10000 in
theorem eqlOg (a b a2 b2 : ByteArray) (c d c2 d2 : Int) (W : World) : Sem.run Tryd.prog (binOp .eql 70 (.agg #[.string a, .string b, .int .i64 c, .int .i64 d]) (.agg #[.string a2, .string b2, .int .i64 c2, .int .i64 d2])) W = .ok (.bool (sameF a b c d a2 b2 c2 d2)) W := by
  unfold sameF
  cases e1 : (a.toList == a2.toList) with
  | false => go_simp
  | true =>
  cases e2 : (b.toList == b2.toList) with
  | false => go_simp
  | true =>
  cases e3 : (c == c2) with
  | false => go_simp
  | true =>
  cases e4 : (d == d2) with
  | false => go_simp
  | true => go_simp
def q9g0 : Oper := { dst := some 25, op := Op.fieldAddr 54 (Operand.tmp 9) 4, type := 0, pos := "l09_frame.go:87", after := #[], guard := none }
def q9g1 : Oper := { dst := some 26, op := Op.load 4 (Operand.tmp 25), type := 4, pos := "l09_frame.go:87", after := #[{ on := 0, ground := Ground.data }], guard := none }
def q9g2 : Oper := { dst := some 27, op := Op.move (Operand.tmp 26), type := 4, pos := "l09_frame.go:87", after := #[{ on := 1, ground := Ground.data }], guard := none }
def q9g3 : Oper := { dst := some 28, op := Op.fieldAddr 54 (Operand.tmp 9) 2, type := 0, pos := "l09_frame.go:87", after := #[{ on := 2, ground := Ground.guard }], guard := some (2, true) }
def q9g4 : Oper := { dst := some 29, op := Op.load 35 (Operand.tmp 28), type := 35, pos := "l09_frame.go:87", after := #[{ on := 3, ground := Ground.data }, { on := 2, ground := Ground.guard }], guard := some (2, true) }
def q9g5 : Oper := { dst := some 30, op := Op.call { callee := Callee.value (Operand.func 47), args := #[Operand.tmp 29], argTypes := #[35] }, type := 70, pos := "l09_frame.go:87", after := #[{ on := 4, ground := Ground.data }, { on := 2, ground := Ground.chain }, { on := 2, ground := Ground.guard }], guard := some (2, true) }
def q9g6 : Oper := { dst := some 31, op := Op.load 35 (Operand.tmp 5), type := 35, pos := "l09_frame.go:87", after := #[{ on := 2, ground := Ground.guard }], guard := some (2, true) }
def q9g7 : Oper := { dst := some 32, op := Op.call { callee := Callee.value (Operand.func 47), args := #[Operand.tmp 31], argTypes := #[35] }, type := 70, pos := "l09_frame.go:87", after := #[{ on := 6, ground := Ground.data }, { on := 5, ground := Ground.chain }, { on := 2, ground := Ground.guard }], guard := some (2, true) }
def q9g8 : Oper := { dst := some 33, op := Op.binOp BinOp.eql 70 (Operand.tmp 30) (Operand.tmp 32) 70, type := 4, pos := "l09_frame.go:87", after := #[{ on := 5, ground := Ground.data }, { on := 7, ground := Ground.data }, { on := 2, ground := Ground.guard }], guard := some (2, true) }
def q9g9 : Oper := { dst := some 34, op := Op.pick (Operand.tmp 27) (Operand.tmp 33) (Operand.const (Value.bool false)), type := 4, pos := "l09_frame.go:87", after := #[{ on := 2, ground := Ground.data }, { on := 8, ground := Ground.data }], guard := none }
def q9g10 : Oper := { dst := some 35, op := Op.fieldAddr 54 (Operand.tmp 9) 4, type := 0, pos := "l09_frame.go:87", after := #[{ on := 0, ground := Ground.phase }, { on := 1, ground := Ground.phase }, { on := 2, ground := Ground.phase }, { on := 3, ground := Ground.phase }, { on := 4, ground := Ground.phase }, { on := 5, ground := Ground.phase }, { on := 6, ground := Ground.phase }, { on := 7, ground := Ground.phase }, { on := 8, ground := Ground.phase }, { on := 9, ground := Ground.phase }], guard := none }
def q9g11 : Oper := { dst := none, op := Op.store 4 (Operand.tmp 35) (Operand.tmp 34), type := 0, pos := "l09_frame.go:87", after := #[{ on := 10, ground := Ground.data }, { on := 9, ground := Ground.data }, { on := 7, ground := Ground.chain }, { on := 0, ground := Ground.phase }, { on := 1, ground := Ground.phase }, { on := 2, ground := Ground.phase }, { on := 3, ground := Ground.phase }, { on := 4, ground := Ground.phase }, { on := 5, ground := Ground.phase }, { on := 6, ground := Ground.phase }, { on := 7, ground := Ground.phase }, { on := 8, ground := Ground.phase }, { on := 9, ground := Ground.phase }], guard := none }
open List (setIfInBounds_toArray set_cons_zero set_cons_succ)
/-- what FrameGo tells of what is right -/
def goP (L : List Fr) (id : Int) (sc ho pt : ByteArray) (po : Int) : FO := if hereF L id = false then ⟨[], 0, 6⟩ else ⟨goL L id sc ho pt po, id, 0⟩
set_option maxRecDepth 10000 in
set_option maxHeartbeats 16000000 in
theorem specGoP_any (v : Value) (L : List Fr) (B : Nat) (id : Int) (sc ho pt : ByteArray) (po : Int) (w : World) (hs : SliceF w B v L) (hL : framesB L = true) (hu : urlB sc ho pt po = true) :
    Calls Tryd.prog 27 #[v, .int .i64 id, .agg #[.string sc, .string ho, .int .i64 po, .string pt]] w fun e w' => ∃ v', e = .returned v' ∧ AnsF w' w.heap.size v' (goP L id sc ho pt po) ∧ Below w.heap.size w w' := by
  have h10 := (framesB_parts hL).1
  have KI : Hid (∀ c W, Calls Tryd.prog 23 #[.int .i64 c] W fun e w' => e = .returned (.agg #[.slice none 0 0, .int .i64 0, .int .i64 c]) ∧ Below W.heap.size W w') := fun c W => specIll9_any c W
  have KA : Hid (∀ W, Below w.heap.size w W → Calls Tryd.prog 40 #[v, .int .i64 id] W fun e w' => e = .returned (.int .i64 (whF L id)) ∧ w' = W) := fun W hb => specAt_any v L B id W (hs.below hb) (by omega)
  have KN : Hid (∀ W, Below w.heap.size w W → Calls Tryd.prog 41 #[v, .int .i64 id] W fun e w' => ∃ v', e = .returned v' ∧ w'.ownsRow W.heap.size 54 9 v' (innerF L id).length (frCells (innerF L id)) ∧ Below W.heap.size W w') := fun W hb => specInner9_any v L B id W (hs.below hb) (by omega) hL
  have KM : Hid (∀ mv B W, SliceF W B mv (innerF L id) → Calls Tryd.prog 40 #[mv, .int .i64 id] W fun e w' => e = .returned (.int .i64 (whF (innerF L id) id)) ∧ w' = W) := fun mv B W h => specAt_any mv (innerF L id) B id W h (by have h4 : (innerF L id).length ≤ L.length := List.length_filter_le _ _; omega)
  have KU : Hid (∀ W, Calls Tryd.prog 47 #[.agg #[.string sc, .string ho, .int .i64 po, .string pt]] W fun e w' => e = .returned (.agg #[.string sc, .string ho, .int .i64 po, .int .i64 0]) ∧ Below W.heap.size W w') := fun W => by
    have h := specOriginOf_any sc ho pt po W
    rw [if_pos hu] at h
    exact h
  have KY0 : hereF L id = true → ∀ W, Calls Tryd.prog 47 #[.agg #[.string (getF L id).sc, .string (getF L id).ho, .int .i64 (getF L id).po, .string (getF L id).pt]] W fun e w' => e = .returned (.agg #[.string (getF L id).sc, .string (getF L id).ho, .int .i64 (getF L id).po, .int .i64 0]) ∧ Below W.heap.size W w' := fun hh W => by
    obtain ⟨k, hk, -, eg, -⟩ := here_wh hh
    have h := specOriginOf_any (getF L id).sc (getF L id).ho (getF L id).pt (getF L id).po W
    rw [if_pos (by rw [eg]; exact okF_u9 ((framesB_parts hL).2 k hk))] at h
    exact h
  have HIH : Hid (hereF L id = true → ∃ k, k < (innerF L id).length ∧ whF (innerF L id) id = (k : Int) ∧ atF (innerF L id) k = getF L id) := fun hh => inner_here hL hh
  obtain ⟨W0, hW⟩ : ∃ W0, W0 = ((w.alloc (.cells #[.string sc, .string ho, .int .i64 po, .string pt] 35)).alloc (.cells #[.slice none 0 0, .int .i64 0, .int .i64 0] 31)) := ⟨_, rfl⟩
  have hW0 : Hid (W0 = ((w.alloc (.cells #[.string sc, .string ho, .int .i64 po, .string pt] 35)).alloc (.cells #[.slice none 0 0, .int .i64 0, .int .i64 0] 31))) := hW
  have U0 : Hid (BoxV W0 w.heap.size [.string sc, .string ho, .int .i64 po, .string pt]) := by show BoxV _ _ _; rw [hW]; exact (boxV_new w [.string sc, .string ho, .int .i64 po, .string pt] 35).alloc _
  have X0 : Hid (BoxV W0 (w.heap.size + 1) [.slice none 0 0, .int .i64 0, .int .i64 0]) := by
    show BoxV _ _ _
    rw [hW]
    have h := boxV_new (w.alloc (.cells #[.string sc, .string ho, .int .i64 po, .string pt] 35)) [.slice none 0 0, .int .i64 0, .int .i64 0] 31
    rw [World.size_alloc] at h
    exact h
  have B0 : Hid (Below w.heap.size w W0) := by show Below _ _ _; rw [hW]; exact ((Below.refl _ _).alloc (Nat.le_refl _) _).alloc (by simp) _
  have HGP : Hid (∀ b, hereF L id = b → goP L id sc ho pt po = if b = false then ⟨[], 0, 6⟩ else ⟨goL L id sc ho pt po, id, 0⟩) := fun b h => by rw [← h]; rfl
  obtain ⟨p, cap, rfl⟩ : ∃ p cap, v = .slice p L.length cap := by obtain ⟨-, p, c, e, -⟩ := hs; exact ⟨p, c, e⟩
  clear hW hs hL hu
  go_enter Tryd.func27, Tryd.ntmps27
  go_upto_region 1 with fail
  rw [← hW0.out]
  clear hW0
  go_wp2_with fail
  refine (KA.out _ B0.out).mono ?_
  rintro e w1 ⟨rfl, e1⟩
  have e2 := e1.symm
  subst e2
  clear e1
  clear KA
  have hwd : hereF L id = decide (0 ≤ whF L id) := rfl
  cases hh : hereF L id with
  | false =>
    have hw : whF L id < 0 := by rw [hwd, decide_eq_false_iff_not] at hh; omega
    have HQ : Hid (goP L id sc ho pt po = ⟨[], 0, 6⟩) := by show _ = _; rw [HGP.out _ hh, if_pos rfl]
    clear hh hwd HGP HIH
    generalize whF L id = k at *
    go_wp2_with fail
    refine (KI.out 6 _).mono ?_
    rintro e w9 ⟨rfl, hb9⟩
    have X9 : Hid (BoxV w9 (w.heap.size + 1) [.slice none 0 0, .int .i64 0, .int .i64 0]) := X0.out.below hb9
    have B9 : Hid (Below w.heap.size w w9) := B0.out.trans (hb9.mono B0.out.size)
    clear hb9
    have x0 : w9.cell? ⟨w.heap.size + 1, 0, none⟩ = some (.slice none 0 0) := X9.out.at (i := 0) rfl
    have xf0 : w9.frozen? ⟨w.heap.size + 1, 0, none⟩ = false := X9.out.free (i := 0) rfl
    have x1 : w9.cell? ⟨w.heap.size + 1, 1, none⟩ = some (.int .i64 0) := X9.out.at (i := 1) rfl
    have xf1 : w9.frozen? ⟨w.heap.size + 1, 1, none⟩ = false := X9.out.free (i := 1) rfl
    have x2 : w9.cell? ⟨w.heap.size + 1, 2, none⟩ = some (.int .i64 0) := X9.out.at (i := 2) rfl
    have xf2 : w9.frozen? ⟨w.heap.size + 1, 2, none⟩ = false := X9.out.free (i := 2) rfl
    go_wp2
    exact bodyPost_ret (v := .agg #[.slice none 0 0, .int .i64 0, .int .i64 6]) (by simp [results, Tryd.results27, go_sem, x0, x1, x2]) rfl ⟨_, rfl, ⟨.slice none 0 0, by rw [HQ.out], by rw [HQ.out]; exact sliceF_none _ _⟩, (Below.setCell (Below.setCell (Below.setCell B9.out (Nat.le_succ _) _) (Nat.le_succ _) _) (Nat.le_succ _) _)⟩
  | true =>
  have hw : ¬ (whF L id < 0) := by rw [hwd, decide_eq_true_iff] at hh; omega
  have qw : decide (whF L id < 0) = false := by rw [decide_eq_false_iff_not]; exact hw
  have HQ : Hid (goP L id sc ho pt po = ⟨goL L id sc ho pt po, id, 0⟩) := by show _ = _; rw [HGP.out _ hh, if_neg (by decide)]
  obtain ⟨k, hk, ekw, ek⟩ := HIH.out hh
  have KY1 := KY0 hh
  have HGL : Hid (goL L id sc ho pt po = (innerF L id).set k (wentF (getF L id) sc ho pt po)) := by show _ = _; unfold goL; rw [ekw]; rfl
  rw [ekw] at KM
  rw [← ek] at KY1 HGL
  clear hh hwd hw HGP HIH KY0 ekw ek
  generalize whF L id = wh at *
  generalize goL L id sc ho pt po = GL at *
  generalize innerF L id = M at *
  go_wp2_with fail
  refine (KN.out _ B0.out).mono ?_
  rintro e w3 ⟨mv, rfl, om, hb3⟩
  obtain ⟨g, mc, rfl⟩ := Joins.ownsRow_form om (by omega)
  have hg3 : W0.heap.size ≤ g ∧ g < w3.heap.size := om.lt g rfl
  have SM0 : SliceF w3 W0.heap.size (.slice (some ⟨g, 0, none⟩) M.length mc) M := sliceF_of_own om
  have U3 : Hid (BoxV w3 w.heap.size [.string sc, .string ho, .int .i64 po, .string pt]) := U0.out.below hb3
  have X3 : Hid (BoxV w3 (w.heap.size + 1) [.slice none 0 0, .int .i64 0, .int .i64 0]) := X0.out.below hb3
  have B3 : Hid (Below w.heap.size w w3) := B0.out.trans (hb3.mono B0.out.size)
  have z0 : w.heap.size + 1 < W0.heap.size := X0.out.1
  have SM : Hid (SliceF w3 W0.heap.size (.slice (some ⟨g, 0, none⟩) M.length mc) M) := SM0
  have HC : Hid (∀ o, o < 9 → w3.cell? ⟨g, k * 9 + o, none⟩ = some (frC (atF M k) o)) := fun o ho => by
    obtain ⟨⟨p', c', e', hc⟩, -⟩ := SM0
    obtain ⟨g', e2, -, -, hc⟩ := hc (by omega)
    have e3 : g = g' := by injection e' with e'; rw [e2] at e'; injection e' with e'; injection e'
    subst e3
    exact (hc k hk o ho).1
  clear hb3 om U0 X0 B0 KN SM0
  go_wp2_with fail
  refine (KM.out _ _ _ SM.out).mono ?_
  rintro e w4 ⟨rfl, e4⟩
  have e5 := e4.symm
  subst e5
  clear e4
  clear KM
  have k0 : (0 : Int) ≤ k := by omega
  have k1 : (k : Int) < M.length := by omega
  have c0 : w3.cell? ⟨g, k * 9, none⟩ = some (.int .i64 (atF M k).id) := HC.out 0 (by omega)
  have c1 : w3.cell? ⟨g, k * 9 + 1, none⟩ = some (.int .i64 (atF M k).pa) := HC.out 1 (by omega)
  have c2 : w3.cell? ⟨g, k * 9 + 2, none⟩ = some (.string (atF M k).sc) := HC.out 2 (by omega)
  have c3 : w3.cell? ⟨g, k * 9 + 3, none⟩ = some (.string (atF M k).ho) := HC.out 3 (by omega)
  have c4 : w3.cell? ⟨g, k * 9 + 4, none⟩ = some (.int .i64 (atF M k).po) := HC.out 4 (by omega)
  have c5 : w3.cell? ⟨g, k * 9 + 5, none⟩ = some (.string (atF M k).pt) := HC.out 5 (by omega)
  have c6 : w3.cell? ⟨g, k * 9 + 6, none⟩ = some (.bool (atF M k).sb) := HC.out 6 (by omega)
  have c7 : w3.cell? ⟨g, k * 9 + 7, none⟩ = some (.bool (atF M k).fl) := HC.out 7 (by omega)
  have c8 : w3.cell? ⟨g, k * 9 + 8, none⟩ = some (.int .i64 (atF M k).tc) := HC.out 8 (by omega)
  generalize atF M k = y at *
  obtain ⟨yid, ypa, ysc, yho, ypo, ypt, ysb, yfl, ytc⟩ := y
  dsimp only at *
  obtain ⟨W5, hW5⟩ : ∃ W5, W5 = w3.alloc (.cells #[.int .i64 yid, .int .i64 ypa, .string ysc, .string yho, .int .i64 ypo, .string ypt, .bool ysb, .bool yfl, .int .i64 ytc] 54) := ⟨_, rfl⟩
  have HW5 : Hid (W5 = w3.alloc (.cells #[.int .i64 yid, .int .i64 ypa, .string ysc, .string yho, .int .i64 ypo, .string ypt, .bool ysb, .bool yfl, .int .i64 ytc] 54)) := hW5
  have A3 : Below w3.heap.size w3 W5 := by rw [hW5]; exact (Below.refl _ _).alloc (Nat.le_refl _) _
  have hfW : w3.heap.size < W5.heap.size := by rw [hW5]; simp
  have F5 : Hid (BoxV W5 w3.heap.size [.int .i64 yid, .int .i64 ypa, .string ysc, .string yho, .int .i64 ypo, .string ypt, .bool ysb, .bool yfl, .int .i64 ytc]) := by show BoxV _ _ _; rw [hW5]; exact boxV_new w3 [.int .i64 yid, .int .i64 ypa, .string ysc, .string yho, .int .i64 ypo, .string ypt, .bool ysb, .bool yfl, .int .i64 ytc] 54
  have U5 : Hid (BoxV W5 w.heap.size [.string sc, .string ho, .int .i64 po, .string pt]) := U3.out.below A3
  have X5 : Hid (BoxV W5 (w.heap.size + 1) [.slice none 0 0, .int .i64 0, .int .i64 0]) := X3.out.below A3
  have B5 : Hid (Below w.heap.size w W5) := B3.out.trans (A3.mono B3.out.size)
  have SM5 : Hid (SliceF W5 W0.heap.size (.slice (some ⟨g, 0, none⟩) M.length mc) M) := SM.out.below A3
  have hgf : g < w3.heap.size := hg3.2
  have hgo : w.heap.size + 1 < g := by omega
  have HGK : Hid (∀ (W : World), SliceF W W0.heap.size (.slice (some ⟨g, 0, none⟩) M.length mc) M → ∀ o, o < 9 → W.cell? ⟨g, k * 9 + o, none⟩ = some (frC (atF M k) o) ∧ W.frozen? ⟨g, k * 9 + o, none⟩ = false) := fun W h o ho => by
    obtain ⟨⟨p', c', e', hc⟩, -⟩ := h
    obtain ⟨g', e2, -, -, hc⟩ := hc (by omega)
    have e3 : g = g' := by injection e' with e'; rw [e2] at e'; injection e' with e'; injection e'
    subst e3
    exact hc k hk o ho
  clear hW5 A3 U3 X3 B3 SM HC hg3
  go_upto_region 6 with fail
  rw [← HW5.out]
  clear HW5 c0 c1 c2 c3 c4 c5 c6 c7 c8
  generalize hfb : w3.heap.size = fb at *
  generalize hub : w.heap.size = ub at *
  have huW : ub < W5.heap.size := U5.out.1
  have hn1 : fb ≠ ub := by omega
  have hn2 : ub ≠ fb := by omega
  have f0 : W5.cell? ⟨fb, 0, none⟩ = some (.int .i64 yid) := F5.out.at (i := 0) rfl
  have f1 : W5.cell? ⟨fb, 1, none⟩ = some (.int .i64 ypa) := F5.out.at (i := 1) rfl
  have f2 : W5.cell? ⟨fb, 2, none⟩ = some (.string ysc) := F5.out.at (i := 2) rfl
  have f3 : W5.cell? ⟨fb, 3, none⟩ = some (.string yho) := F5.out.at (i := 3) rfl
  have f4 : W5.cell? ⟨fb, 4, none⟩ = some (.int .i64 ypo) := F5.out.at (i := 4) rfl
  have f5 : W5.cell? ⟨fb, 5, none⟩ = some (.string ypt) := F5.out.at (i := 5) rfl
  have f6 : W5.cell? ⟨fb, 6, none⟩ = some (.bool ysb) := F5.out.at (i := 6) rfl
  have f7 : W5.cell? ⟨fb, 7, none⟩ = some (.bool yfl) := F5.out.at (i := 7) rfl
  have f8 : W5.cell? ⟨fb, 8, none⟩ = some (.int .i64 ytc) := F5.out.at (i := 8) rfl
  have u0 : W5.cell? ⟨ub, 0, none⟩ = some (.string sc) := U5.out.at (i := 0) rfl
  have u1 : W5.cell? ⟨ub, 1, none⟩ = some (.string ho) := U5.out.at (i := 1) rfl
  have u2 : W5.cell? ⟨ub, 2, none⟩ = some (.int .i64 po) := U5.out.at (i := 2) rfl
  have u3 : W5.cell? ⟨ub, 3, none⟩ = some (.string pt) := U5.out.at (i := 3) rfl
  have ff7 : W5.frozen? ⟨fb, 7, none⟩ = false := F5.out.free (i := 7) rfl
  cases yfl with
  | false =>
    refine wp_region_held_drew (S := (fun w' => w'.cell? ⟨fb, 0, none⟩ = some (.int .i64 yid) ∧ w'.cell? ⟨fb, 1, none⟩ = some (.int .i64 ypa) ∧ w'.cell? ⟨fb, 2, none⟩ = some (.string ysc) ∧ w'.cell? ⟨fb, 3, none⟩ = some (.string yho) ∧ w'.cell? ⟨fb, 4, none⟩ = some (.int .i64 ypo) ∧ w'.cell? ⟨fb, 5, none⟩ = some (.string ypt) ∧ w'.cell? ⟨fb, 6, none⟩ = some (.bool ysb) ∧ w'.cell? ⟨fb, 8, none⟩ = some (.int .i64 ytc) ∧ w'.cell? ⟨ub, 0, none⟩ = some (.string sc) ∧ w'.cell? ⟨ub, 1, none⟩ = some (.string ho) ∧ w'.cell? ⟨ub, 2, none⟩ = some (.int .i64 po) ∧ w'.cell? ⟨ub, 3, none⟩ = some (.string pt))) (by kernel_rfl) ?_ (fun hH0 => ?_)
    · (try dsimp only)
      go_keep
    refine takeY (i := 0) (oi := q9g0) (v := ?va00) rfl ?ha00 ?ra00
    case ha00 => (intro w hSw; (try dsimp only [q9g0] at hSw ⊢); go_simp; try with_reducible rfl)
    try simp only [q9g0, Act.put, setIfInBounds_toArray, set_cons_zero, set_cons_succ]
    refine wpAnyH_ready (rs := [1]) (by kernel_rfl) (by simp) ?_
    refine AllReadyH.cons (o := q9g1) rfl (fun K hK => ?_) AllReadyH.nil
    dsimp only [q9g1] at hK ⊢
    go_simp
    (skip)
    try (go_wp2_with fail)
    refine hK.out _ _ ?_ (fun hH1 => ?_)
    · (try dsimp only)
      (go_keep; all_goals (refine ⟨?_, ?_, ?_, ?_, ?_, ?_, ?_, ?_⟩ <;> (rw [World.cell?_setCell_other _ _ _ _ (by simp)]; assumption)))
    clear hK K hH0
    try simp only [q9g1, Act.put, setIfInBounds_toArray, set_cons_zero, set_cons_succ]
    refine takeY (i := 2) (oi := q9g2) (v := ?va02) rfl ?ha02 ?ra02
    case ha02 => (intro w hSw; (try dsimp only [q9g2] at hSw ⊢); go_simp; try with_reducible rfl)
    try simp only [q9g2, Act.put, setIfInBounds_toArray, set_cons_zero, set_cons_succ]
    refine takeN (i := 3) (oi := q9g3) rfl ?_
    try simp only [q9g3, Act.put, setIfInBounds_toArray, set_cons_zero, set_cons_succ]
    refine takeN (i := 4) (oi := q9g4) rfl ?_
    try simp only [q9g4, Act.put, setIfInBounds_toArray, set_cons_zero, set_cons_succ]
    refine takeN (i := 5) (oi := q9g5) rfl ?_
    try simp only [q9g5, Act.put, setIfInBounds_toArray, set_cons_zero, set_cons_succ]
    refine takeN (i := 6) (oi := q9g6) rfl ?_
    try simp only [q9g6, Act.put, setIfInBounds_toArray, set_cons_zero, set_cons_succ]
    refine takeN (i := 7) (oi := q9g7) rfl ?_
    try simp only [q9g7, Act.put, setIfInBounds_toArray, set_cons_zero, set_cons_succ]
    refine takeN (i := 8) (oi := q9g8) rfl ?_
    try simp only [q9g8, Act.put, setIfInBounds_toArray, set_cons_zero, set_cons_succ]
    refine takeY (i := 9) (oi := q9g9) (v := ?va09) rfl ?ha09 ?ra09
    case ha09 => (intro w hSw; (try dsimp only [q9g9] at hSw ⊢); go_simp; try with_reducible rfl)
    try simp only [q9g9, Act.put, setIfInBounds_toArray, set_cons_zero, set_cons_succ]
    refine takeY (i := 10) (oi := q9g10) (v := ?va010) rfl ?ha010 ?ra010
    case ha010 => (intro w hSw; (try dsimp only [q9g10] at hSw ⊢); go_simp; try with_reducible rfl)
    try simp only [q9g10, Act.put, setIfInBounds_toArray, set_cons_zero, set_cons_succ]
    refine wpAnyH_ready (rs := [11]) (by kernel_rfl) (by simp) ?_
    refine AllReadyH.cons (o := q9g11) rfl (fun K hK => ?_) AllReadyH.nil
    dsimp only [q9g11] at hK ⊢
    go_simp
    (skip)
    try (go_wp2_with fail)
    refine hK.out _ _ ?_ (fun hH2 => ?_)
    · (try dsimp only)
      (go_keep; all_goals (refine ⟨?_, ?_, ?_, ?_, ?_, ?_, ?_, ?_⟩ <;> (rw [World.cell?_setCell_other _ _ _ _ (by simp)]; assumption)))
    clear hK K hH1
    try simp only [q9g11, Act.put, setIfInBounds_toArray, set_cons_zero, set_cons_succ]
    refine wpAnyH_done (by kernel_rfl) ?_ _
    obtain ⟨W6, hW6⟩ : ∃ W6, W6 = (W5.setCell ⟨fb, 7, none⟩ (.bool false)).drew := ⟨_, rfl⟩
    have HW6 : Hid (W6 = (W5.setCell ⟨fb, 7, none⟩ (.bool false)).drew) := hW6
    have F6 : Hid (BoxV W6 fb [.int .i64 yid, .int .i64 ypa, .string ysc, .string yho, .int .i64 ypo, .string ypt, .bool ysb, .bool (false), .int .i64 ytc]) := by show BoxV _ _ _; rw [hW6]; exact (F5.out.set 7 (by simp) _).drew
    have U6 : Hid (BoxV W6 ub [.string sc, .string ho, .int .i64 po, .string pt]) := by show BoxV _ _ _; rw [hW6]; exact (U5.out.set_other (by omega)).drew
    have X6 : Hid (BoxV W6 (ub + 1) [.slice none 0 0, .int .i64 0, .int .i64 0]) := by show BoxV _ _ _; rw [hW6]; exact (X5.out.set_other (by omega)).drew
    have B6 : Hid (Below ub w W6) := by show Below _ _ _; rw [hW6]; exact (B5.out.setCell (p := ⟨fb, 7, none⟩) (show ub ≤ fb from by omega) _).drew
    have SM6 : Hid (SliceF W6 W0.heap.size (.slice (some ⟨g, 0, none⟩) M.length mc) M) := by show SliceF _ _ _ _; rw [hW6]; exact SliceF.drewG (SliceF.offG SM5.out (by omega) _ _)
    rw [← HW6.out]
    clear HW6 hW6 F5 U5 X5 B5 SM5 f0 f1 f2 f3 f4 f5 f6 f7 f8 u0 u1 u2 u3 ff7
    have f0 : W6.cell? ⟨fb, 0, none⟩ = some (.int .i64 yid) := F6.out.at (i := 0) rfl
    have ff0 : W6.frozen? ⟨fb, 0, none⟩ = false := F6.out.free (i := 0) rfl
    have f1 : W6.cell? ⟨fb, 1, none⟩ = some (.int .i64 ypa) := F6.out.at (i := 1) rfl
    have ff1 : W6.frozen? ⟨fb, 1, none⟩ = false := F6.out.free (i := 1) rfl
    have f2 : W6.cell? ⟨fb, 2, none⟩ = some (.string ysc) := F6.out.at (i := 2) rfl
    have ff2 : W6.frozen? ⟨fb, 2, none⟩ = false := F6.out.free (i := 2) rfl
    have f3 : W6.cell? ⟨fb, 3, none⟩ = some (.string yho) := F6.out.at (i := 3) rfl
    have ff3 : W6.frozen? ⟨fb, 3, none⟩ = false := F6.out.free (i := 3) rfl
    have f4 : W6.cell? ⟨fb, 4, none⟩ = some (.int .i64 ypo) := F6.out.at (i := 4) rfl
    have ff4 : W6.frozen? ⟨fb, 4, none⟩ = false := F6.out.free (i := 4) rfl
    have f5 : W6.cell? ⟨fb, 5, none⟩ = some (.string ypt) := F6.out.at (i := 5) rfl
    have ff5 : W6.frozen? ⟨fb, 5, none⟩ = false := F6.out.free (i := 5) rfl
    have f6 : W6.cell? ⟨fb, 6, none⟩ = some (.bool ysb) := F6.out.at (i := 6) rfl
    have ff6 : W6.frozen? ⟨fb, 6, none⟩ = false := F6.out.free (i := 6) rfl
    have f7 : W6.cell? ⟨fb, 7, none⟩ = some (.bool (false)) := F6.out.at (i := 7) rfl
    have ff7 : W6.frozen? ⟨fb, 7, none⟩ = false := F6.out.free (i := 7) rfl
    have f8 : W6.cell? ⟨fb, 8, none⟩ = some (.int .i64 ytc) := F6.out.at (i := 8) rfl
    have ff8 : W6.frozen? ⟨fb, 8, none⟩ = false := F6.out.free (i := 8) rfl
    have u0 : W6.cell? ⟨ub, 0, none⟩ = some (.string sc) := U6.out.at (i := 0) rfl
    have u1 : W6.cell? ⟨ub, 1, none⟩ = some (.string ho) := U6.out.at (i := 1) rfl
    have u2 : W6.cell? ⟨ub, 2, none⟩ = some (.int .i64 po) := U6.out.at (i := 2) rfl
    have u3 : W6.cell? ⟨ub, 3, none⟩ = some (.string pt) := U6.out.at (i := 3) rfl
    obtain ⟨W8, hW8⟩ : ∃ W8, W8 = (((((W6.setCell ⟨fb, 2, none⟩ (.string sc)).setCell ⟨fb, 3, none⟩ (.string ho)).setCell ⟨fb, 4, none⟩ (.int .i64 po)).setCell ⟨fb, 5, none⟩ (.string pt)).setCell ⟨fb, 8, none⟩ (.int .i64 0)) := ⟨_, rfl⟩
    have HW8 : Hid (W8 = (((((W6.setCell ⟨fb, 2, none⟩ (.string sc)).setCell ⟨fb, 3, none⟩ (.string ho)).setCell ⟨fb, 4, none⟩ (.int .i64 po)).setCell ⟨fb, 5, none⟩ (.string pt)).setCell ⟨fb, 8, none⟩ (.int .i64 0))) := hW8
    have F8 : Hid (BoxV W8 fb [.int .i64 yid, .int .i64 ypa, .string sc, .string ho, .int .i64 po, .string pt, .bool ysb, .bool (false), .int .i64 0]) := by show BoxV _ _ _; rw [hW8]; exact ((((F6.out.set 2 (by simp) _).set 3 (by simp) _).set 4 (by simp) _).set 5 (by simp) _).set 8 (by simp) _
    have X8 : Hid (BoxV W8 (ub + 1) [.slice none 0 0, .int .i64 0, .int .i64 0]) := by show BoxV _ _ _; rw [hW8]; exact ((((X6.out.set_other (by omega)).set_other (by omega)).set_other (by omega)).set_other (by omega)).set_other (by omega)
    have B8 : Hid (Below ub w W8) := by show Below _ _ _; rw [hW8]; exact Below.setCell (Below.setCell (Below.setCell (Below.setCell (Below.setCell B6.out (show ub ≤ fb from by omega) _) (show ub ≤ fb from by omega) _) (show ub ≤ fb from by omega) _) (show ub ≤ fb from by omega) _) (show ub ≤ fb from by omega) _
    have SM8 : Hid (SliceF W8 W0.heap.size (.slice (some ⟨g, 0, none⟩) M.length mc) M) := by show SliceF _ _ _ _; rw [hW8]; exact SliceF.offG (SliceF.offG (SliceF.offG (SliceF.offG (SliceF.offG SM6.out (by omega) _ _) (by omega) _ _) (by omega) _ _) (by omega) _ _) (by omega) _ _
    clear hW8
    go_upto_region 9 with fail
    rw [← HW8.out]
    clear HW8 F6 U6 X6 B6 SM6 f0 ff0 f1 ff1 f2 ff2 f3 ff3 f4 ff4 f5 ff5 f6 ff6 f7 ff7 f8 ff8 u0 u1 u2 u3
    have f0 : W8.cell? ⟨fb, 0, none⟩ = some (.int .i64 yid) := F8.out.at (i := 0) rfl
    have f1 : W8.cell? ⟨fb, 1, none⟩ = some (.int .i64 ypa) := F8.out.at (i := 1) rfl
    have f2 : W8.cell? ⟨fb, 2, none⟩ = some (.string sc) := F8.out.at (i := 2) rfl
    have f3 : W8.cell? ⟨fb, 3, none⟩ = some (.string ho) := F8.out.at (i := 3) rfl
    have f4 : W8.cell? ⟨fb, 4, none⟩ = some (.int .i64 po) := F8.out.at (i := 4) rfl
    have f5 : W8.cell? ⟨fb, 5, none⟩ = some (.string pt) := F8.out.at (i := 5) rfl
    have f6 : W8.cell? ⟨fb, 6, none⟩ = some (.bool ysb) := F8.out.at (i := 6) rfl
    have f7 : W8.cell? ⟨fb, 7, none⟩ = some (.bool (false)) := F8.out.at (i := 7) rfl
    have f8 : W8.cell? ⟨fb, 8, none⟩ = some (.int .i64 0) := F8.out.at (i := 8) rfl
    have HGC : ∀ o, o < 9 → ∃ v, W8.cell? ⟨g, k * 9 + o, none⟩ = some v ∧ W8.frozen? ⟨g, k * 9 + o, none⟩ = false := fun o ho => ⟨_, HGK.out W8 SM8.out o ho⟩
    obtain ⟨gv0, gc0, gf0⟩ := HGC 0 (by omega)
    obtain ⟨gv1, gc1, gf1⟩ := HGC 1 (by omega)
    obtain ⟨gv2, gc2, gf2⟩ := HGC 2 (by omega)
    obtain ⟨gv3, gc3, gf3⟩ := HGC 3 (by omega)
    obtain ⟨gv4, gc4, gf4⟩ := HGC 4 (by omega)
    obtain ⟨gv5, gc5, gf5⟩ := HGC 5 (by omega)
    obtain ⟨gv6, gc6, gf6⟩ := HGC 6 (by omega)
    obtain ⟨gv7, gc7, gf7⟩ := HGC 7 (by omega)
    obtain ⟨gv8, gc8, gf8⟩ := HGC 8 (by omega)
    rw [Nat.add_zero] at gc0 gf0
    clear HGC
    obtain ⟨W9, hW9⟩ : ∃ W9, W9 = put9 W8 g (k * 9) ⟨yid, ypa, sc, ho, po, pt, ysb, false, 0⟩ := ⟨_, rfl⟩
    have HW9 : Hid (W9 = (((((((((W8.setCell ⟨g, k * 9, none⟩ (.int .i64 yid)).setCell ⟨g, k * 9 + 1, none⟩ (.int .i64 ypa)).setCell ⟨g, k * 9 + 2, none⟩ (.string sc)).setCell ⟨g, k * 9 + 3, none⟩ (.string ho)).setCell ⟨g, k * 9 + 4, none⟩ (.int .i64 po)).setCell ⟨g, k * 9 + 5, none⟩ (.string pt)).setCell ⟨g, k * 9 + 6, none⟩ (.bool ysb)).setCell ⟨g, k * 9 + 7, none⟩ (.bool (false))).setCell ⟨g, k * 9 + 8, none⟩ (.int .i64 0))) := by show W9 = _; rw [hW9]; rfl
    have X9 : Hid (BoxV W9 (ub + 1) [.slice none 0 0, .int .i64 0, .int .i64 0]) := by show BoxV _ _ _; rw [hW9]; exact X8.out.of_block (put9_other _ _ _ _ _ (by omega)) (by rw [put9_size]; exact Nat.le_refl _)
    have B9 : Hid (Below ub w W9) := by show Below _ _ _; rw [hW9]; exact put9_below B8.out (by omega)
    have SM9 : Hid (SliceF W9 W0.heap.size (.slice (some ⟨g, 0, none⟩) M.length mc) (M.set k ⟨yid, ypa, sc, ho, po, pt, ysb, false, 0⟩)) := by show SliceF _ _ _ _; rw [hW9]; exact SM8.out.put9 hk _
    clear hW9
    go_upto_region 10 with fail
    rw [← HW9.out]
    clear HW9 F8 X8 B8 SM8 f0 gc0 gf0 f1 gc1 gf1 f2 gc2 gf2 f3 gc3 gf3 f4 gc4 gf4 f5 gc5 gf5 f6 gc6 gf6 f7 gc7 gf7 f8 gc8 gf8
    have x0 : W9.cell? ⟨ub + 1, 0, none⟩ = some (.slice none 0 0) := X9.out.at (i := 0) rfl
    have xf0 : W9.frozen? ⟨ub + 1, 0, none⟩ = false := X9.out.free (i := 0) rfl
    have x1 : W9.cell? ⟨ub + 1, 1, none⟩ = some (.int .i64 0) := X9.out.at (i := 1) rfl
    have xf1 : W9.frozen? ⟨ub + 1, 1, none⟩ = false := X9.out.free (i := 1) rfl
    have x2 : W9.cell? ⟨ub + 1, 2, none⟩ = some (.int .i64 0) := X9.out.at (i := 2) rfl
    have xf2 : W9.frozen? ⟨ub + 1, 2, none⟩ = false := X9.out.free (i := 2) rfl
    go_wp2
    have HZL : Hid (GL = M.set k ⟨yid, ypa, sc, ho, po, pt, ysb, false, 0⟩) := by show GL = _; rw [HGL.out]; rfl
    refine bodyPost_ret (v := .agg #[.slice (some ⟨g, 0, none⟩) M.length mc, .int .i64 id, .int .i64 0]) (by simp [results, Tryd.results27, go_sem, x0, x1, x2]) rfl ⟨_, rfl, ⟨.slice (some ⟨g, 0, none⟩) M.length mc, by rw [HQ.out], ?_⟩, by rw [hub]; exact (Below.setCell (Below.setCell (Below.setCell B9.out (Nat.le_succ _) _) (Nat.le_succ _) _) (Nat.le_succ _) _)⟩
    rw [HQ.out, hub]
    show SliceF _ ub _ GL
    rw [HZL.out]
    exact (SM9.out.store3 (show ub + 1 < W0.heap.size from by omega)).mono (by omega)
  | true =>
    have KY : Hid (∀ W, Calls Tryd.prog 47 #[.agg #[.string ysc, .string yho, .int .i64 ypo, .string ypt]] W fun e w' => e = .returned (.agg #[.string ysc, .string yho, .int .i64 ypo, .int .i64 0]) ∧ Below W.heap.size W w') := KY1
    have hq := fun W => eqlOg ysc yho sc ho ypo 0 po 0 W
    generalize hRR : sameF ysc yho ypo 0 sc ho po 0 = R at *
    have HRR : Hid (sameF ysc yho ypo 0 sc ho po 0 = R) := hRR
    clear hRR KY1
    refine wp_region_held_drew (S := (fun w' => w'.cell? ⟨fb, 0, none⟩ = some (.int .i64 yid) ∧ w'.cell? ⟨fb, 1, none⟩ = some (.int .i64 ypa) ∧ w'.cell? ⟨fb, 2, none⟩ = some (.string ysc) ∧ w'.cell? ⟨fb, 3, none⟩ = some (.string yho) ∧ w'.cell? ⟨fb, 4, none⟩ = some (.int .i64 ypo) ∧ w'.cell? ⟨fb, 5, none⟩ = some (.string ypt) ∧ w'.cell? ⟨fb, 6, none⟩ = some (.bool ysb) ∧ w'.cell? ⟨fb, 8, none⟩ = some (.int .i64 ytc) ∧ w'.cell? ⟨ub, 0, none⟩ = some (.string sc) ∧ w'.cell? ⟨ub, 1, none⟩ = some (.string ho) ∧ w'.cell? ⟨ub, 2, none⟩ = some (.int .i64 po) ∧ w'.cell? ⟨ub, 3, none⟩ = some (.string pt))) (by kernel_rfl) ?_ (fun hH0 => ?_)
    · (try dsimp only)
      go_keep
    refine takeY (i := 0) (oi := q9g0) (v := ?vb00) rfl ?hb00 ?rb00
    case hb00 => (intro w hSw; (try dsimp only [q9g0] at hSw ⊢); go_simp; try with_reducible rfl)
    try simp only [q9g0, Act.put, setIfInBounds_toArray, set_cons_zero, set_cons_succ]
    refine wpAnyH_ready (rs := [1]) (by kernel_rfl) (by simp) ?_
    refine AllReadyH.cons (o := q9g1) rfl (fun K hK => ?_) AllReadyH.nil
    dsimp only [q9g1] at hK ⊢
    go_simp
    (skip)
    try (go_wp2_with fail)
    refine hK.out _ _ ?_ (fun hH1 => ?_)
    · (try dsimp only)
      (go_keep; all_goals (refine ⟨?_, ?_, ?_, ?_, ?_, ?_, ?_, ?_⟩ <;> (rw [World.cell?_setCell_other _ _ _ _ (by simp)]; assumption)))
    clear hK K hH0
    try simp only [q9g1, Act.put, setIfInBounds_toArray, set_cons_zero, set_cons_succ]
    refine takeY (i := 2) (oi := q9g2) (v := ?vb02) rfl ?hb02 ?rb02
    case hb02 => (intro w hSw; (try dsimp only [q9g2] at hSw ⊢); go_simp; try with_reducible rfl)
    try simp only [q9g2, Act.put, setIfInBounds_toArray, set_cons_zero, set_cons_succ]
    refine takeY (i := 3) (oi := q9g3) (v := ?vb03) rfl ?hb03 ?rb03
    case hb03 => (intro w hSw; (try dsimp only [q9g3] at hSw ⊢); go_simp; try with_reducible rfl)
    try simp only [q9g3, Act.put, setIfInBounds_toArray, set_cons_zero, set_cons_succ]
    refine takeY (i := 4) (oi := q9g4) (v := ?vb04) rfl ?hb04 ?rb04
    case hb04 => (intro w hSw; (try dsimp only [q9g4] at hSw ⊢); go_simp; try with_reducible rfl)
    try simp only [q9g4, Act.put, setIfInBounds_toArray, set_cons_zero, set_cons_succ]
    refine takeY (i := 6) (oi := q9g6) (v := ?vb06) rfl ?hb06 ?rb06
    case hb06 => (intro w hSw; (try dsimp only [q9g6] at hSw ⊢); go_simp; try with_reducible rfl)
    try simp only [q9g6, Act.put, setIfInBounds_toArray, set_cons_zero, set_cons_succ]
    refine wpAnyH_ready (rs := [5]) (by kernel_rfl) (by simp) ?_
    refine AllReadyH.cons (o := q9g5) rfl (fun K hK => ?_) AllReadyH.nil
    dsimp only [q9g5] at hK ⊢
    go_simp
    (go_at_call 47; refine (KY.out _).mono ?_; rintro e w5 ⟨rfl, hb5⟩; have A5 : Below W5.heap.size W5 w5 := (Below.drew (Below.refl _ _)).trans hb5; have pf0 : w5.cell? ⟨fb, 0, none⟩ = some (.int .i64 yid) := ((bcell A5).1 _ _ hfW).trans f0; have pf1 : w5.cell? ⟨fb, 1, none⟩ = some (.int .i64 ypa) := ((bcell A5).1 _ _ hfW).trans f1; have pf2 : w5.cell? ⟨fb, 2, none⟩ = some (.string ysc) := ((bcell A5).1 _ _ hfW).trans f2; have pf3 : w5.cell? ⟨fb, 3, none⟩ = some (.string yho) := ((bcell A5).1 _ _ hfW).trans f3; have pf4 : w5.cell? ⟨fb, 4, none⟩ = some (.int .i64 ypo) := ((bcell A5).1 _ _ hfW).trans f4; have pf5 : w5.cell? ⟨fb, 5, none⟩ = some (.string ypt) := ((bcell A5).1 _ _ hfW).trans f5; have pf6 : w5.cell? ⟨fb, 6, none⟩ = some (.bool ysb) := ((bcell A5).1 _ _ hfW).trans f6; have pf7 : w5.cell? ⟨fb, 7, none⟩ = some (.bool true) := ((bcell A5).1 _ _ hfW).trans f7; have pf8 : w5.cell? ⟨fb, 8, none⟩ = some (.int .i64 ytc) := ((bcell A5).1 _ _ hfW).trans f8; have pu0 : w5.cell? ⟨ub, 0, none⟩ = some (.string sc) := ((bcell A5).1 _ _ huW).trans u0; have pu1 : w5.cell? ⟨ub, 1, none⟩ = some (.string ho) := ((bcell A5).1 _ _ huW).trans u1; have pu2 : w5.cell? ⟨ub, 2, none⟩ = some (.int .i64 po) := ((bcell A5).1 _ _ huW).trans u2; have pu3 : w5.cell? ⟨ub, 3, none⟩ = some (.string pt) := ((bcell A5).1 _ _ huW).trans u3)
    try (go_wp2_with fail)
    refine hK.out _ _ ?_ (fun hH2 => ?_)
    · (try dsimp only)
      (go_keep; all_goals (refine ⟨?_, ?_, ?_, ?_, ?_, ?_, ?_, ?_⟩ <;> (rw [World.cell?_setCell_other _ _ _ _ (by simp)]; assumption)))
    clear hK K hH1
    try simp only [q9g5, Act.put, setIfInBounds_toArray, set_cons_zero, set_cons_succ]
    refine wpAnyH_ready (rs := [7]) (by kernel_rfl) (by simp) ?_
    refine AllReadyH.cons (o := q9g7) rfl (fun K hK => ?_) AllReadyH.nil
    dsimp only [q9g7] at hK ⊢
    go_simp
    (go_at_call 47; refine (KU.out _).mono ?_; rintro e w6 ⟨rfl, hb6⟩; have A6 : Below W5.heap.size W5 w6 := A5.trans (hb6.mono A5.size); have qf0 : w6.cell? ⟨fb, 0, none⟩ = some (.int .i64 yid) := ((bcell A6).1 _ _ hfW).trans f0; have qf1 : w6.cell? ⟨fb, 1, none⟩ = some (.int .i64 ypa) := ((bcell A6).1 _ _ hfW).trans f1; have qf2 : w6.cell? ⟨fb, 2, none⟩ = some (.string ysc) := ((bcell A6).1 _ _ hfW).trans f2; have qf3 : w6.cell? ⟨fb, 3, none⟩ = some (.string yho) := ((bcell A6).1 _ _ hfW).trans f3; have qf4 : w6.cell? ⟨fb, 4, none⟩ = some (.int .i64 ypo) := ((bcell A6).1 _ _ hfW).trans f4; have qf5 : w6.cell? ⟨fb, 5, none⟩ = some (.string ypt) := ((bcell A6).1 _ _ hfW).trans f5; have qf6 : w6.cell? ⟨fb, 6, none⟩ = some (.bool ysb) := ((bcell A6).1 _ _ hfW).trans f6; have qf7 : w6.cell? ⟨fb, 7, none⟩ = some (.bool true) := ((bcell A6).1 _ _ hfW).trans f7; have qf8 : w6.cell? ⟨fb, 8, none⟩ = some (.int .i64 ytc) := ((bcell A6).1 _ _ hfW).trans f8; have qu0 : w6.cell? ⟨ub, 0, none⟩ = some (.string sc) := ((bcell A6).1 _ _ huW).trans u0; have qu1 : w6.cell? ⟨ub, 1, none⟩ = some (.string ho) := ((bcell A6).1 _ _ huW).trans u1; have qu2 : w6.cell? ⟨ub, 2, none⟩ = some (.int .i64 po) := ((bcell A6).1 _ _ huW).trans u2; have qu3 : w6.cell? ⟨ub, 3, none⟩ = some (.string pt) := ((bcell A6).1 _ _ huW).trans u3; have qff : w6.frozen? ⟨fb, 7, none⟩ = false := ((bcell A6).2 _ _ hfW).trans ff7)
    try (go_wp2_with fail)
    refine hK.out _ _ ?_ (fun hH3 => ?_)
    · (try dsimp only)
      (go_keep; all_goals (refine ⟨?_, ?_, ?_, ?_, ?_, ?_, ?_, ?_⟩ <;> (rw [World.cell?_setCell_other _ _ _ _ (by simp)]; assumption)))
    clear hK K hH2
    try simp only [q9g7, Act.put, setIfInBounds_toArray, set_cons_zero, set_cons_succ]
    refine takeY (i := 8) (oi := q9g8) (v := ?vb08) rfl ?hb08 ?rb08
    case hb08 => (intro w hSw; (try dsimp only [q9g8] at hSw ⊢); go_simp; try with_reducible rfl)
    try simp only [q9g8, Act.put, setIfInBounds_toArray, set_cons_zero, set_cons_succ]
    refine takeY (i := 9) (oi := q9g9) (v := ?vb09) rfl ?hb09 ?rb09
    case hb09 => (intro w hSw; (try dsimp only [q9g9] at hSw ⊢); go_simp; try with_reducible rfl)
    try simp only [q9g9, Act.put, setIfInBounds_toArray, set_cons_zero, set_cons_succ]
    refine takeY (i := 10) (oi := q9g10) (v := ?vb010) rfl ?hb010 ?rb010
    case hb010 => (intro w hSw; (try dsimp only [q9g10] at hSw ⊢); go_simp; try with_reducible rfl)
    try simp only [q9g10, Act.put, setIfInBounds_toArray, set_cons_zero, set_cons_succ]
    refine wpAnyH_ready (rs := [11]) (by kernel_rfl) (by simp) ?_
    refine AllReadyH.cons (o := q9g11) rfl (fun K hK => ?_) AllReadyH.nil
    dsimp only [q9g11] at hK ⊢
    go_simp
    (skip)
    try (go_wp2_with fail)
    refine hK.out _ _ ?_ (fun hH4 => ?_)
    · (try dsimp only)
      (go_keep; all_goals (refine ⟨?_, ?_, ?_, ?_, ?_, ?_, ?_, ?_⟩ <;> (rw [World.cell?_setCell_other _ _ _ _ (by simp)]; assumption)))
    clear hK K hH3
    try simp only [q9g11, Act.put, setIfInBounds_toArray, set_cons_zero, set_cons_succ]
    refine wpAnyH_done (by kernel_rfl) ?_ _
    clear hq
    obtain ⟨W6, hW6⟩ : ∃ W6, W6 = w6.setCell ⟨fb, 7, none⟩ (.bool R) := ⟨_, rfl⟩
    have HW6 : Hid (W6 = w6.setCell ⟨fb, 7, none⟩ (.bool R)) := hW6
    have F6 : Hid (BoxV W6 fb [.int .i64 yid, .int .i64 ypa, .string ysc, .string yho, .int .i64 ypo, .string ypt, .bool ysb, .bool (R), .int .i64 ytc]) := by show BoxV _ _ _; rw [hW6]; exact (F5.out.below A6).set 7 (by simp) _
    have U6 : Hid (BoxV W6 ub [.string sc, .string ho, .int .i64 po, .string pt]) := by show BoxV _ _ _; rw [hW6]; exact (U5.out.below A6).set_other (by omega)
    have X6 : Hid (BoxV W6 (ub + 1) [.slice none 0 0, .int .i64 0, .int .i64 0]) := by show BoxV _ _ _; rw [hW6]; exact (X5.out.below A6).set_other (by omega)
    have B6 : Hid (Below ub w W6) := by show Below _ _ _; rw [hW6]; exact (B5.out.trans (A6.mono (by omega))).setCell (p := ⟨fb, 7, none⟩) (show ub ≤ fb from by omega) _
    have SM6 : Hid (SliceF W6 W0.heap.size (.slice (some ⟨g, 0, none⟩) M.length mc) M) := by show SliceF _ _ _ _; rw [hW6]; exact SliceF.offG (SM5.out.below A6) (by omega) _ _
    rw [← HW6.out]
    clear HW6 hW6 F5 U5 X5 B5 SM5 f0 f1 f2 f3 f4 f5 f6 f7 f8 u0 u1 u2 u3 ff7
    have f0 : W6.cell? ⟨fb, 0, none⟩ = some (.int .i64 yid) := F6.out.at (i := 0) rfl
    have ff0 : W6.frozen? ⟨fb, 0, none⟩ = false := F6.out.free (i := 0) rfl
    have f1 : W6.cell? ⟨fb, 1, none⟩ = some (.int .i64 ypa) := F6.out.at (i := 1) rfl
    have ff1 : W6.frozen? ⟨fb, 1, none⟩ = false := F6.out.free (i := 1) rfl
    have f2 : W6.cell? ⟨fb, 2, none⟩ = some (.string ysc) := F6.out.at (i := 2) rfl
    have ff2 : W6.frozen? ⟨fb, 2, none⟩ = false := F6.out.free (i := 2) rfl
    have f3 : W6.cell? ⟨fb, 3, none⟩ = some (.string yho) := F6.out.at (i := 3) rfl
    have ff3 : W6.frozen? ⟨fb, 3, none⟩ = false := F6.out.free (i := 3) rfl
    have f4 : W6.cell? ⟨fb, 4, none⟩ = some (.int .i64 ypo) := F6.out.at (i := 4) rfl
    have ff4 : W6.frozen? ⟨fb, 4, none⟩ = false := F6.out.free (i := 4) rfl
    have f5 : W6.cell? ⟨fb, 5, none⟩ = some (.string ypt) := F6.out.at (i := 5) rfl
    have ff5 : W6.frozen? ⟨fb, 5, none⟩ = false := F6.out.free (i := 5) rfl
    have f6 : W6.cell? ⟨fb, 6, none⟩ = some (.bool ysb) := F6.out.at (i := 6) rfl
    have ff6 : W6.frozen? ⟨fb, 6, none⟩ = false := F6.out.free (i := 6) rfl
    have f7 : W6.cell? ⟨fb, 7, none⟩ = some (.bool (R)) := F6.out.at (i := 7) rfl
    have ff7 : W6.frozen? ⟨fb, 7, none⟩ = false := F6.out.free (i := 7) rfl
    have f8 : W6.cell? ⟨fb, 8, none⟩ = some (.int .i64 ytc) := F6.out.at (i := 8) rfl
    have ff8 : W6.frozen? ⟨fb, 8, none⟩ = false := F6.out.free (i := 8) rfl
    have u0 : W6.cell? ⟨ub, 0, none⟩ = some (.string sc) := U6.out.at (i := 0) rfl
    have u1 : W6.cell? ⟨ub, 1, none⟩ = some (.string ho) := U6.out.at (i := 1) rfl
    have u2 : W6.cell? ⟨ub, 2, none⟩ = some (.int .i64 po) := U6.out.at (i := 2) rfl
    have u3 : W6.cell? ⟨ub, 3, none⟩ = some (.string pt) := U6.out.at (i := 3) rfl
    obtain ⟨W8, hW8⟩ : ∃ W8, W8 = (((((W6.setCell ⟨fb, 2, none⟩ (.string sc)).setCell ⟨fb, 3, none⟩ (.string ho)).setCell ⟨fb, 4, none⟩ (.int .i64 po)).setCell ⟨fb, 5, none⟩ (.string pt)).setCell ⟨fb, 8, none⟩ (.int .i64 0)) := ⟨_, rfl⟩
    have HW8 : Hid (W8 = (((((W6.setCell ⟨fb, 2, none⟩ (.string sc)).setCell ⟨fb, 3, none⟩ (.string ho)).setCell ⟨fb, 4, none⟩ (.int .i64 po)).setCell ⟨fb, 5, none⟩ (.string pt)).setCell ⟨fb, 8, none⟩ (.int .i64 0))) := hW8
    have F8 : Hid (BoxV W8 fb [.int .i64 yid, .int .i64 ypa, .string sc, .string ho, .int .i64 po, .string pt, .bool ysb, .bool (R), .int .i64 0]) := by show BoxV _ _ _; rw [hW8]; exact ((((F6.out.set 2 (by simp) _).set 3 (by simp) _).set 4 (by simp) _).set 5 (by simp) _).set 8 (by simp) _
    have X8 : Hid (BoxV W8 (ub + 1) [.slice none 0 0, .int .i64 0, .int .i64 0]) := by show BoxV _ _ _; rw [hW8]; exact ((((X6.out.set_other (by omega)).set_other (by omega)).set_other (by omega)).set_other (by omega)).set_other (by omega)
    have B8 : Hid (Below ub w W8) := by show Below _ _ _; rw [hW8]; exact Below.setCell (Below.setCell (Below.setCell (Below.setCell (Below.setCell B6.out (show ub ≤ fb from by omega) _) (show ub ≤ fb from by omega) _) (show ub ≤ fb from by omega) _) (show ub ≤ fb from by omega) _) (show ub ≤ fb from by omega) _
    have SM8 : Hid (SliceF W8 W0.heap.size (.slice (some ⟨g, 0, none⟩) M.length mc) M) := by show SliceF _ _ _ _; rw [hW8]; exact SliceF.offG (SliceF.offG (SliceF.offG (SliceF.offG (SliceF.offG SM6.out (by omega) _ _) (by omega) _ _) (by omega) _ _) (by omega) _ _) (by omega) _ _
    clear hW8
    go_upto_region 9 with fail
    rw [← HW8.out]
    clear HW8 F6 U6 X6 B6 SM6 f0 ff0 f1 ff1 f2 ff2 f3 ff3 f4 ff4 f5 ff5 f6 ff6 f7 ff7 f8 ff8 u0 u1 u2 u3
    have f0 : W8.cell? ⟨fb, 0, none⟩ = some (.int .i64 yid) := F8.out.at (i := 0) rfl
    have f1 : W8.cell? ⟨fb, 1, none⟩ = some (.int .i64 ypa) := F8.out.at (i := 1) rfl
    have f2 : W8.cell? ⟨fb, 2, none⟩ = some (.string sc) := F8.out.at (i := 2) rfl
    have f3 : W8.cell? ⟨fb, 3, none⟩ = some (.string ho) := F8.out.at (i := 3) rfl
    have f4 : W8.cell? ⟨fb, 4, none⟩ = some (.int .i64 po) := F8.out.at (i := 4) rfl
    have f5 : W8.cell? ⟨fb, 5, none⟩ = some (.string pt) := F8.out.at (i := 5) rfl
    have f6 : W8.cell? ⟨fb, 6, none⟩ = some (.bool ysb) := F8.out.at (i := 6) rfl
    have f7 : W8.cell? ⟨fb, 7, none⟩ = some (.bool (R)) := F8.out.at (i := 7) rfl
    have f8 : W8.cell? ⟨fb, 8, none⟩ = some (.int .i64 0) := F8.out.at (i := 8) rfl
    have HGC : ∀ o, o < 9 → ∃ v, W8.cell? ⟨g, k * 9 + o, none⟩ = some v ∧ W8.frozen? ⟨g, k * 9 + o, none⟩ = false := fun o ho => ⟨_, HGK.out W8 SM8.out o ho⟩
    obtain ⟨gv0, gc0, gf0⟩ := HGC 0 (by omega)
    obtain ⟨gv1, gc1, gf1⟩ := HGC 1 (by omega)
    obtain ⟨gv2, gc2, gf2⟩ := HGC 2 (by omega)
    obtain ⟨gv3, gc3, gf3⟩ := HGC 3 (by omega)
    obtain ⟨gv4, gc4, gf4⟩ := HGC 4 (by omega)
    obtain ⟨gv5, gc5, gf5⟩ := HGC 5 (by omega)
    obtain ⟨gv6, gc6, gf6⟩ := HGC 6 (by omega)
    obtain ⟨gv7, gc7, gf7⟩ := HGC 7 (by omega)
    obtain ⟨gv8, gc8, gf8⟩ := HGC 8 (by omega)
    rw [Nat.add_zero] at gc0 gf0
    clear HGC
    obtain ⟨W9, hW9⟩ : ∃ W9, W9 = put9 W8 g (k * 9) ⟨yid, ypa, sc, ho, po, pt, ysb, R, 0⟩ := ⟨_, rfl⟩
    have HW9 : Hid (W9 = (((((((((W8.setCell ⟨g, k * 9, none⟩ (.int .i64 yid)).setCell ⟨g, k * 9 + 1, none⟩ (.int .i64 ypa)).setCell ⟨g, k * 9 + 2, none⟩ (.string sc)).setCell ⟨g, k * 9 + 3, none⟩ (.string ho)).setCell ⟨g, k * 9 + 4, none⟩ (.int .i64 po)).setCell ⟨g, k * 9 + 5, none⟩ (.string pt)).setCell ⟨g, k * 9 + 6, none⟩ (.bool ysb)).setCell ⟨g, k * 9 + 7, none⟩ (.bool (R))).setCell ⟨g, k * 9 + 8, none⟩ (.int .i64 0))) := by show W9 = _; rw [hW9]; rfl
    have X9 : Hid (BoxV W9 (ub + 1) [.slice none 0 0, .int .i64 0, .int .i64 0]) := by show BoxV _ _ _; rw [hW9]; exact X8.out.of_block (put9_other _ _ _ _ _ (by omega)) (by rw [put9_size]; exact Nat.le_refl _)
    have B9 : Hid (Below ub w W9) := by show Below _ _ _; rw [hW9]; exact put9_below B8.out (by omega)
    have SM9 : Hid (SliceF W9 W0.heap.size (.slice (some ⟨g, 0, none⟩) M.length mc) (M.set k ⟨yid, ypa, sc, ho, po, pt, ysb, R, 0⟩)) := by show SliceF _ _ _ _; rw [hW9]; exact SM8.out.put9 hk _
    clear hW9
    go_upto_region 10 with fail
    rw [← HW9.out]
    clear HW9 F8 X8 B8 SM8 f0 gc0 gf0 f1 gc1 gf1 f2 gc2 gf2 f3 gc3 gf3 f4 gc4 gf4 f5 gc5 gf5 f6 gc6 gf6 f7 gc7 gf7 f8 gc8 gf8
    have x0 : W9.cell? ⟨ub + 1, 0, none⟩ = some (.slice none 0 0) := X9.out.at (i := 0) rfl
    have xf0 : W9.frozen? ⟨ub + 1, 0, none⟩ = false := X9.out.free (i := 0) rfl
    have x1 : W9.cell? ⟨ub + 1, 1, none⟩ = some (.int .i64 0) := X9.out.at (i := 1) rfl
    have xf1 : W9.frozen? ⟨ub + 1, 1, none⟩ = false := X9.out.free (i := 1) rfl
    have x2 : W9.cell? ⟨ub + 1, 2, none⟩ = some (.int .i64 0) := X9.out.at (i := 2) rfl
    have xf2 : W9.frozen? ⟨ub + 1, 2, none⟩ = false := X9.out.free (i := 2) rfl
    go_wp2
    have HZL : Hid (GL = M.set k ⟨yid, ypa, sc, ho, po, pt, ysb, R, 0⟩) := by show GL = _; rw [HGL.out]; rw [← HRR.out]; rfl
    refine bodyPost_ret (v := .agg #[.slice (some ⟨g, 0, none⟩) M.length mc, .int .i64 id, .int .i64 0]) (by simp [results, Tryd.results27, go_sem, x0, x1, x2]) rfl ⟨_, rfl, ⟨.slice (some ⟨g, 0, none⟩) M.length mc, by rw [HQ.out], ?_⟩, by rw [hub]; exact (Below.setCell (Below.setCell (Below.setCell B9.out (Nat.le_succ _) _) (Nat.le_succ _) _) (Nat.le_succ _) _)⟩
    rw [HQ.out, hub]
    show SliceF _ ub _ GL
    rw [HZL.out]
    exact (SM9.out.store3 (show ub + 1 < W0.heap.size from by omega)).mono (by omega)
end Go.Proofs.YtclpamjgglfljaaDoor

/- The walk of the specification's FrameGo. Written by implgo2.py. -/
namespace Go.Proofs.YtclpamjgglfljaaDoor
open Go.RowKit

set_option maxRecDepth 10000 in
set_option maxHeartbeats 16000000 in
theorem specFrameGo_any (v rv : Value) (L : List Fr) (B Br n : Nat) (f : Nat → ByteArray) (id : Int) (sc ho pt : ByteArray) (po : Int) (w : World) (hs : SliceF w B v L) (hn : L.length ≤ 1048576) (hr : SliceS w Br rv n f) (l1 : n ≤ 1048576) (hf : ∀ i, i < n → (f i).size ≤ 1048576) :
    Calls Tryd.prog 8 #[v, rv, .int .i64 id, .agg #[.string sc, .string ho, .int .i64 po, .string pt]] w fun e w' => ∃ v', e = .returned v' ∧ AnsF w' w.heap.size v' (goF L n f id sc ho pt po) ∧ Below w.heap.size w w' := by
  have KI : Hid (∀ c W, Calls Tryd.prog 23 #[.int .i64 c] W fun e w' => e = .returned (.agg #[.slice none 0 0, .int .i64 0, .int .i64 c]) ∧ Below W.heap.size W w') := fun c W => specIll9_any c W
  have KF : Hid (∀ W, Below w.heap.size w W → Calls Tryd.prog 24 #[v] W fun e w' => e = .returned (.bool (framesB L)) ∧ Below W.heap.size W w') := fun W hb => specFrames_any v L B W (hs.below hb) hn
  have KR : Hid (∀ W, Below w.heap.size w W → Calls Tryd.prog 25 #[rv] W fun e w' => e = .returned (.bool (rulesB n f)) ∧ Below W.heap.size W w') := fun W hb => specRules_any rv n Br f W (hr.below hb) l1 hf
  have KU : Hid (∀ W, Below w.heap.size w W → Calls Tryd.prog 26 #[.agg #[.string sc, .string ho, .int .i64 po, .string pt]] W fun e w' => e = .returned (.bool (urlB sc ho pt po)) ∧ Below W.heap.size W w') := fun W _ => specUrlRight_any sc ho pt po W
  have KG : Hid (framesB L = true → urlB sc ho pt po = true → ∀ W, Below w.heap.size w W → Calls Tryd.prog 27 #[v, .int .i64 id, .agg #[.string sc, .string ho, .int .i64 po, .string pt]] W fun e w' => ∃ v', e = .returned v' ∧ AnsF w' W.heap.size v' (goP L id sc ho pt po) ∧ Below W.heap.size W w') := fun h1 h2 W hb => specGoP_any v L B id sc ho pt po W (hs.below hb) h1 h2
  obtain ⟨W0, hW⟩ : ∃ W0, W0 = ((w.alloc (.cells #[.string sc, .string ho, .int .i64 po, .string pt] 35)).alloc (.cells #[.slice none 0 0, .int .i64 0, .int .i64 0] 31)) := ⟨_, rfl⟩
  have hW0 : Hid (W0 = ((w.alloc (.cells #[.string sc, .string ho, .int .i64 po, .string pt] 35)).alloc (.cells #[.slice none 0 0, .int .i64 0, .int .i64 0] 31))) := hW
  have U0 : Hid (BoxV W0 w.heap.size [.string sc, .string ho, .int .i64 po, .string pt]) := by show BoxV _ _ _; rw [hW]; exact (boxV_new w [.string sc, .string ho, .int .i64 po, .string pt] 35).alloc _
  have X0 : Hid (BoxV W0 (w.heap.size + 1) [.slice none 0 0, .int .i64 0, .int .i64 0]) := by
    show BoxV _ _ _
    rw [hW]
    have h := boxV_new (w.alloc (.cells #[.string sc, .string ho, .int .i64 po, .string pt] 35)) [.slice none 0 0, .int .i64 0, .int .i64 0] 31
    rw [World.size_alloc] at h
    exact h
  have B0 : Hid (Below w.heap.size w W0) := by show Below _ _ _; rw [hW]; exact ((Below.refl _ _).alloc (Nat.le_refl _) _).alloc (by simp) _
  obtain ⟨p, cap, rfl⟩ : ∃ p cap, v = .slice p L.length cap := by obtain ⟨-, p, c, e, -⟩ := hs; exact ⟨p, c, e⟩
  obtain ⟨pr, capr, rfl⟩ : ∃ p cap, rv = .slice p n cap := by obtain ⟨p, c, e, -⟩ := hr; exact ⟨p, c, e⟩
  clear hW hs hr hf
  by_cases h4 : 400 < L.length
  · have q4 : decide ((400 : Int) < (L.length : Int)) = true := by rw [decide_eq_true_iff]; omega
    go_enter Tryd.func8, Tryd.ntmps8
    go_upto_region 1 with fail
    rw [← hW0.out]
    clear hW0
    have HQ : Hid (goF L n f id sc ho pt po = ⟨[], 0, 2⟩) := by show _ = _; exact goF_size (.inl h4)
    go_wp2_with fail
    refine (KI.out 2 _).mono ?_
    rintro e w9 ⟨rfl, hb9⟩
    have X9 : Hid (BoxV w9 (w.heap.size + 1) [.slice none 0 0, .int .i64 0, .int .i64 0]) := X0.out.below hb9
    have B9 : Hid (Below w.heap.size w w9) := B0.out.trans (hb9.mono B0.out.size)
    clear hb9
    have x0 : w9.cell? ⟨w.heap.size + 1, 0, none⟩ = some (.slice none 0 0) := X9.out.at (i := 0) rfl
    have x1 : w9.cell? ⟨w.heap.size + 1, 1, none⟩ = some (.int .i64 0) := X9.out.at (i := 1) rfl
    have x2 : w9.cell? ⟨w.heap.size + 1, 2, none⟩ = some (.int .i64 0) := X9.out.at (i := 2) rfl
    have xz0 : w9.frozen? ⟨w.heap.size + 1, 0, none⟩ = false := X9.out.free (i := 0) rfl
    have xz1 : w9.frozen? ⟨w.heap.size + 1, 1, none⟩ = false := X9.out.free (i := 1) rfl
    have xz2 : w9.frozen? ⟨w.heap.size + 1, 2, none⟩ = false := X9.out.free (i := 2) rfl
    go_wp2
    exact bodyPost_ret (v := .agg #[.slice none 0 0, .int .i64 0, .int .i64 2]) (by simp [results, Tryd.results8, go_sem, x0, x1, x2]) rfl ⟨_, rfl, ⟨.slice none 0 0, by rw [HQ.out], by rw [HQ.out]; exact sliceF_none _ _⟩, (Below.setCell (Below.setCell (Below.setCell B9.out (Nat.le_succ _) _) (Nat.le_succ _) _) (Nat.le_succ _) _)⟩
  have q4 : decide ((400 : Int) < (L.length : Int)) = false := by rw [decide_eq_false_iff_not]; omega
  by_cases h5 : 400 < n
  · have q5 : decide ((400 : Int) < (n : Int)) = true := by rw [decide_eq_true_iff]; omega
    go_enter Tryd.func8, Tryd.ntmps8
    go_upto_region 1 with fail
    rw [← hW0.out]
    clear hW0
    have HQ : Hid (goF L n f id sc ho pt po = ⟨[], 0, 2⟩) := by show _ = _; exact goF_size (.inr h5)
    go_wp2_with fail
    refine (KI.out 2 _).mono ?_
    rintro e w9 ⟨rfl, hb9⟩
    have X9 : Hid (BoxV w9 (w.heap.size + 1) [.slice none 0 0, .int .i64 0, .int .i64 0]) := X0.out.below hb9
    have B9 : Hid (Below w.heap.size w w9) := B0.out.trans (hb9.mono B0.out.size)
    clear hb9
    have x0 : w9.cell? ⟨w.heap.size + 1, 0, none⟩ = some (.slice none 0 0) := X9.out.at (i := 0) rfl
    have x1 : w9.cell? ⟨w.heap.size + 1, 1, none⟩ = some (.int .i64 0) := X9.out.at (i := 1) rfl
    have x2 : w9.cell? ⟨w.heap.size + 1, 2, none⟩ = some (.int .i64 0) := X9.out.at (i := 2) rfl
    have xz0 : w9.frozen? ⟨w.heap.size + 1, 0, none⟩ = false := X9.out.free (i := 0) rfl
    have xz1 : w9.frozen? ⟨w.heap.size + 1, 1, none⟩ = false := X9.out.free (i := 1) rfl
    have xz2 : w9.frozen? ⟨w.heap.size + 1, 2, none⟩ = false := X9.out.free (i := 2) rfl
    go_wp2
    exact bodyPost_ret (v := .agg #[.slice none 0 0, .int .i64 0, .int .i64 2]) (by simp [results, Tryd.results8, go_sem, x0, x1, x2]) rfl ⟨_, rfl, ⟨.slice none 0 0, by rw [HQ.out], by rw [HQ.out]; exact sliceF_none _ _⟩, (Below.setCell (Below.setCell (Below.setCell B9.out (Nat.le_succ _) _) (Nat.le_succ _) _) (Nat.le_succ _) _)⟩
  have q5 : decide ((400 : Int) < (n : Int)) = false := by rw [decide_eq_false_iff_not]; omega
  have h45 : ¬ (400 < L.length ∨ 400 < n) := by omega
  go_enter Tryd.func8, Tryd.ntmps8
  go_upto_region 1 with fail
  rw [← hW0.out]
  clear hW0
  go_wp2_with fail
  refine (KF.out _ B0.out).mono ?_
  rintro e w1 ⟨rfl, hb1⟩
  have X1 : Hid (BoxV w1 (w.heap.size + 1) [.slice none 0 0, .int .i64 0, .int .i64 0]) := X0.out.below hb1
  have U1 : Hid (BoxV w1 w.heap.size [.string sc, .string ho, .int .i64 po, .string pt]) := U0.out.below hb1
  have B1 : Hid (Below w.heap.size w w1) := B0.out.trans (hb1.mono B0.out.size)
  clear hb1 X0 U0 B0
  cases hfb : framesB L with
  | false =>
    have HQ : Hid (goF L n f id sc ho pt po = ⟨[], 0, 1⟩) := by show _ = _; exact goF_form h45 (by rw [hfb]; rfl)
    go_wp2_with fail
    refine (KI.out 1 _).mono ?_
    rintro e w9 ⟨rfl, hb9⟩
    have X9 : Hid (BoxV w9 (w.heap.size + 1) [.slice none 0 0, .int .i64 0, .int .i64 0]) := X1.out.below hb9
    have B9 : Hid (Below w.heap.size w w9) := B1.out.trans (hb9.mono B1.out.size)
    clear hb9
    have x0 : w9.cell? ⟨w.heap.size + 1, 0, none⟩ = some (.slice none 0 0) := X9.out.at (i := 0) rfl
    have x1 : w9.cell? ⟨w.heap.size + 1, 1, none⟩ = some (.int .i64 0) := X9.out.at (i := 1) rfl
    have x2 : w9.cell? ⟨w.heap.size + 1, 2, none⟩ = some (.int .i64 0) := X9.out.at (i := 2) rfl
    have xz0 : w9.frozen? ⟨w.heap.size + 1, 0, none⟩ = false := X9.out.free (i := 0) rfl
    have xz1 : w9.frozen? ⟨w.heap.size + 1, 1, none⟩ = false := X9.out.free (i := 1) rfl
    have xz2 : w9.frozen? ⟨w.heap.size + 1, 2, none⟩ = false := X9.out.free (i := 2) rfl
    go_wp2
    exact bodyPost_ret (v := .agg #[.slice none 0 0, .int .i64 0, .int .i64 1]) (by simp [results, Tryd.results8, go_sem, x0, x1, x2]) rfl ⟨_, rfl, ⟨.slice none 0 0, by rw [HQ.out], by rw [HQ.out]; exact sliceF_none _ _⟩, (Below.setCell (Below.setCell (Below.setCell B9.out (Nat.le_succ _) _) (Nat.le_succ _) _) (Nat.le_succ _) _)⟩
  | true =>
  go_wp2_with fail
  refine (KR.out _ B1.out).mono ?_
  rintro e w2 ⟨rfl, hb2⟩
  have X2 : Hid (BoxV w2 (w.heap.size + 1) [.slice none 0 0, .int .i64 0, .int .i64 0]) := X1.out.below hb2
  have U2 : Hid (BoxV w2 w.heap.size [.string sc, .string ho, .int .i64 po, .string pt]) := U1.out.below hb2
  have B2 : Hid (Below w.heap.size w w2) := B1.out.trans (hb2.mono B1.out.size)
  clear hb2 X1 U1 B1
  cases hrb : rulesB n f with
  | false =>
    have HQ : Hid (goF L n f id sc ho pt po = ⟨[], 0, 1⟩) := by show _ = _; exact goF_form h45 (by rw [hfb, hrb]; rfl)
    go_wp2_with fail
    refine (KI.out 1 _).mono ?_
    rintro e w9 ⟨rfl, hb9⟩
    have X9 : Hid (BoxV w9 (w.heap.size + 1) [.slice none 0 0, .int .i64 0, .int .i64 0]) := X2.out.below hb9
    have B9 : Hid (Below w.heap.size w w9) := B2.out.trans (hb9.mono B2.out.size)
    clear hb9
    have x0 : w9.cell? ⟨w.heap.size + 1, 0, none⟩ = some (.slice none 0 0) := X9.out.at (i := 0) rfl
    have x1 : w9.cell? ⟨w.heap.size + 1, 1, none⟩ = some (.int .i64 0) := X9.out.at (i := 1) rfl
    have x2 : w9.cell? ⟨w.heap.size + 1, 2, none⟩ = some (.int .i64 0) := X9.out.at (i := 2) rfl
    have xz0 : w9.frozen? ⟨w.heap.size + 1, 0, none⟩ = false := X9.out.free (i := 0) rfl
    have xz1 : w9.frozen? ⟨w.heap.size + 1, 1, none⟩ = false := X9.out.free (i := 1) rfl
    have xz2 : w9.frozen? ⟨w.heap.size + 1, 2, none⟩ = false := X9.out.free (i := 2) rfl
    go_wp2
    exact bodyPost_ret (v := .agg #[.slice none 0 0, .int .i64 0, .int .i64 1]) (by simp [results, Tryd.results8, go_sem, x0, x1, x2]) rfl ⟨_, rfl, ⟨.slice none 0 0, by rw [HQ.out], by rw [HQ.out]; exact sliceF_none _ _⟩, (Below.setCell (Below.setCell (Below.setCell B9.out (Nat.le_succ _) _) (Nat.le_succ _) _) (Nat.le_succ _) _)⟩
  | true =>
  have u0 : w2.cell? ⟨w.heap.size, 0, none⟩ = some (.string sc) := U2.out.at (i := 0) rfl
  have u1 : w2.cell? ⟨w.heap.size, 1, none⟩ = some (.string ho) := U2.out.at (i := 1) rfl
  have u2 : w2.cell? ⟨w.heap.size, 2, none⟩ = some (.int .i64 po) := U2.out.at (i := 2) rfl
  have u3 : w2.cell? ⟨w.heap.size, 3, none⟩ = some (.string pt) := U2.out.at (i := 3) rfl
  go_wp2_with fail
  refine (KU.out _ B2.out).mono ?_
  rintro e w3 ⟨rfl, hb3⟩
  have X3 : Hid (BoxV w3 (w.heap.size + 1) [.slice none 0 0, .int .i64 0, .int .i64 0]) := X2.out.below hb3
  have U3 : Hid (BoxV w3 w.heap.size [.string sc, .string ho, .int .i64 po, .string pt]) := U2.out.below hb3
  have B3 : Hid (Below w.heap.size w w3) := B2.out.trans (hb3.mono B2.out.size)
  clear hb3 X2 U2 B2
  clear u0 u1 u2 u3
  cases hub : urlB sc ho pt po with
  | false =>
    have HQ : Hid (goF L n f id sc ho pt po = ⟨[], 0, 1⟩) := by show _ = _; exact goF_form h45 (by rw [hfb, hrb, hub]; rfl)
    go_wp2_with fail
    refine (KI.out 1 _).mono ?_
    rintro e w9 ⟨rfl, hb9⟩
    have X9 : Hid (BoxV w9 (w.heap.size + 1) [.slice none 0 0, .int .i64 0, .int .i64 0]) := X3.out.below hb9
    have B9 : Hid (Below w.heap.size w w9) := B3.out.trans (hb9.mono B3.out.size)
    clear hb9
    have x0 : w9.cell? ⟨w.heap.size + 1, 0, none⟩ = some (.slice none 0 0) := X9.out.at (i := 0) rfl
    have x1 : w9.cell? ⟨w.heap.size + 1, 1, none⟩ = some (.int .i64 0) := X9.out.at (i := 1) rfl
    have x2 : w9.cell? ⟨w.heap.size + 1, 2, none⟩ = some (.int .i64 0) := X9.out.at (i := 2) rfl
    have xz0 : w9.frozen? ⟨w.heap.size + 1, 0, none⟩ = false := X9.out.free (i := 0) rfl
    have xz1 : w9.frozen? ⟨w.heap.size + 1, 1, none⟩ = false := X9.out.free (i := 1) rfl
    have xz2 : w9.frozen? ⟨w.heap.size + 1, 2, none⟩ = false := X9.out.free (i := 2) rfl
    go_wp2
    exact bodyPost_ret (v := .agg #[.slice none 0 0, .int .i64 0, .int .i64 1]) (by simp [results, Tryd.results8, go_sem, x0, x1, x2]) rfl ⟨_, rfl, ⟨.slice none 0 0, by rw [HQ.out], by rw [HQ.out]; exact sliceF_none _ _⟩, (Below.setCell (Below.setCell (Below.setCell B9.out (Nat.le_succ _) _) (Nat.le_succ _) _) (Nat.le_succ _) _)⟩
  | true =>
  have HQ : Hid (goF L n f id sc ho pt po = goP L id sc ho pt po) := by
    show _ = _
    unfold goF goP
    rw [if_neg h45, if_neg (by rw [hfb, hrb, hub]; decide)]
  have KG1 : Hid (∀ W, Below w.heap.size w W → Calls Tryd.prog 27 #[.slice p L.length cap, .int .i64 id, .agg #[.string sc, .string ho, .int .i64 po, .string pt]] W fun e w' => ∃ v', e = .returned v' ∧ AnsF w' W.heap.size v' (goP L id sc ho pt po) ∧ Below W.heap.size W w') := KG.out hfb hub
  clear hfb hrb hub KG KF KR KU KI
  have u0 : w3.cell? ⟨w.heap.size, 0, none⟩ = some (.string sc) := U3.out.at (i := 0) rfl
  have u1 : w3.cell? ⟨w.heap.size, 1, none⟩ = some (.string ho) := U3.out.at (i := 1) rfl
  have u2 : w3.cell? ⟨w.heap.size, 2, none⟩ = some (.int .i64 po) := U3.out.at (i := 2) rfl
  have u3 : w3.cell? ⟨w.heap.size, 3, none⟩ = some (.string pt) := U3.out.at (i := 3) rfl
  generalize goP L id sc ho pt po = Z at *
  go_wp2_with fail
  refine (KG1.out _ B3.out).mono ?_
  rintro e w4 ⟨v', rfl, ⟨s4, rfl, hs4⟩, hb4⟩
  have X4 : Hid (BoxV w4 (w.heap.size + 1) [.slice none 0 0, .int .i64 0, .int .i64 0]) := X3.out.below hb4
  have B4 : Hid (Below w.heap.size w w4) := B3.out.trans (hb4.mono B3.out.size)
  have HZ3 : Hid (w.heap.size + 1 < w3.heap.size) := X3.out.1
  obtain ⟨pm, cm, hmv⟩ : ∃ pm cm, s4 = .slice pm Z.ar.length cm := by obtain ⟨-, p, c, e, -⟩ := hs4; exact ⟨p, c, e⟩
  have S5 : Hid (SliceF w4 w3.heap.size (.slice pm Z.ar.length cm) Z.ar) := by show SliceF _ _ _ _; rw [← hmv]; exact hs4
  subst hmv
  clear hs4 hb4 X3 U3 B3 KG1 u0 u1 u2 u3
  have x0 : w4.cell? ⟨w.heap.size + 1, 0, none⟩ = some (.slice none 0 0) := X4.out.at (i := 0) rfl
  have x1 : w4.cell? ⟨w.heap.size + 1, 1, none⟩ = some (.int .i64 0) := X4.out.at (i := 1) rfl
  have x2 : w4.cell? ⟨w.heap.size + 1, 2, none⟩ = some (.int .i64 0) := X4.out.at (i := 2) rfl
  have xz0 : w4.frozen? ⟨w.heap.size + 1, 0, none⟩ = false := X4.out.free (i := 0) rfl
  have xz1 : w4.frozen? ⟨w.heap.size + 1, 1, none⟩ = false := X4.out.free (i := 1) rfl
  have xz2 : w4.frozen? ⟨w.heap.size + 1, 2, none⟩ = false := X4.out.free (i := 2) rfl
  go_wp2
  refine bodyPost_ret (v := .agg #[.slice pm Z.ar.length cm, .int .i64 Z.id, .int .i64 Z.co]) (by simp [results, Tryd.results8, go_sem, x0, x1, x2]) rfl ⟨_, rfl, ⟨.slice pm Z.ar.length cm, by rw [HQ.out], ?_⟩, (Below.setCell (Below.setCell (Below.setCell B4.out (Nat.le_succ _) _) (Nat.le_succ _) _) (Nat.le_succ _) _)⟩
  rw [HQ.out]
  exact (SliceF.store3 S5.out HZ3.out).mono (by have := HZ3.out; omega)
end Go.Proofs.YtclpamjgglfljaaDoor

/- The walks of the program's OriginRight, OriginOf, OriginText and OriginSame. -/
namespace Go.Proofs.YtclpamjgglfljaaDoor
open Go.RowKit

set_option maxRecDepth 10000 in
set_option maxHeartbeats 400000 in
theorem originRight_any (sc ho : ByteArray) (po no : Int) (w : World) (hG : MaxI w) (hh : ho.size ≤ 1048576) :
    Calls Tryd.prog 77 #[originV sc ho po no] w fun e w' => e = .returned (.bool (originB sc ho po no)) ∧ Below w.heap.size w w' := by
  unfold originV
  have HG : Hid (∀ o, MaxI (w.alloc o)) := fun o => hG.on ((Below.refl _ _).alloc (Nat.le_refl _) _)
  clear hG
  by_cases h0 : no = 0
  · have q : (no == 0) = true := by rw [beq_iff_eq]; exact h0
    have H1 := fun W (h : MaxI W) => placeRight_any sc ho po W h hh
    have HP : Hid (originB sc ho po no = placeB sc ho po) := by show _ = _; rw [originB, if_pos h0]
    clear h0
    generalize placeB sc ho po = b at *
    have G1 : Hid (∀ W, MaxI W → Calls Tryd.prog 52 #[.string sc, .string ho, .int .i64 po] W fun e w' => e = .returned (.bool b) ∧ Below W.heap.size W w') := H1
    clear H1
    go_enter Tryd.func77, Tryd.ntmps77
    go_wp2_with fail
    refine (G1.out _ (HG.out _)).mono ?_
    rintro e w1 ⟨rfl, hb⟩
    go_wp2
    go_ret
    exact ⟨ret_bool HP.out.symm, ((Below.refl _ _).alloc (Nat.le_refl _) _).trans (hb.mono (by simp))⟩
  · have q : (no == 0) = false := by rw [beq_eq_false_iff_ne]; exact h0
    have HP : Hid (originB sc ho po no = ((decide (1 ≤ no) && decide (no ≤ 1000000)) && sc.toList.isEmpty && ho.toList.isEmpty && (po == 0))) := by show _ = _; rw [originB, if_neg h0]
    clear h0
    cases q1 : decide (1 ≤ no) with
    | false =>
      go_enter Tryd.func77, Tryd.ntmps77
      go_wp2
      go_ret
      exact ⟨ret_bool (by rw [HP.out, q1]; rfl), (Below.refl _ _).alloc (Nat.le_refl _) _⟩
    | true =>
      cases q2 : decide (no ≤ 1000000) with
      | false =>
        go_enter Tryd.func77, Tryd.ntmps77
        go_wp2
        go_ret
        exact ⟨ret_bool (by rw [HP.out, q1, q2]; rfl), (Below.refl _ _).alloc (Nat.le_refl _) _⟩
      | true =>
        go_enter Tryd.func77, Tryd.ntmps77
        go_wp2
        all_goals
          go_ret
          exact ⟨ret_bool (by rw [HP.out, q1, q2]; simp [*]), (Below.refl _ _).alloc (Nat.le_refl _) _⟩
/-- a url's fields at block g, an empty origin's behind it -/
def OfAt (w : World) (g : Nat) (sc ho : ByteArray) (po : Int) : Prop :=
  g + 1 < w.heap.size ∧ w.cell? ⟨g, 0, none⟩ = some (.string sc) ∧ w.cell? ⟨g, 1, none⟩ = some (.string ho) ∧ w.cell? ⟨g, 2, none⟩ = some (.int .i64 po) ∧ w.cell? ⟨g + 1, 0, none⟩ = some (.string ⟨#[]⟩) ∧ w.cell? ⟨g + 1, 1, none⟩ = some (.string ⟨#[]⟩) ∧ w.cell? ⟨g + 1, 2, none⟩ = some (.int .i64 0) ∧ w.cell? ⟨g + 1, 3, none⟩ = some (.int .i64 0) ∧ w.frozen? ⟨g + 1, 0, none⟩ = false ∧ w.frozen? ⟨g + 1, 1, none⟩ = false ∧ w.frozen? ⟨g + 1, 2, none⟩ = false ∧ w.frozen? ⟨g + 1, 3, none⟩ = false
theorem OfAt.below {w w' : World} {g : Nat} {sc ho : ByteArray} {po : Int} (h : OfAt w g sc ho po) (hb : Below w.heap.size w w') : OfAt w' g sc ho po := by
  obtain ⟨h0, h1, h2, h3, h4, h5, h6, h7, h8, h9, ha, hc⟩ := h
  have hz := hb.size
  obtain ⟨kc, kf⟩ := bcell hb
  refine ⟨by omega, ?_, ?_, ?_, ?_, ?_, ?_, ?_, ?_, ?_, ?_, ?_⟩
  · rw [kc _ _ (by omega)]; exact h1
  · rw [kc _ _ (by omega)]; exact h2
  · rw [kc _ _ (by omega)]; exact h3
  · rw [kc _ _ h0]; exact h4
  · rw [kc _ _ h0]; exact h5
  · rw [kc _ _ h0]; exact h6
  · rw [kc _ _ h0]; exact h7
  · rw [kf _ _ h0]; exact h8
  · rw [kf _ _ h0]; exact h9
  · rw [kf _ _ h0]; exact ha
  · rw [kf _ _ h0]; exact hc
set_option maxRecDepth 10000 in
set_option maxHeartbeats 1000000 in
theorem originOf_any (sc ho pa : ByteArray) (po : Int) (w : World) (hG : MaxI w) (hh : ho.size ≤ 1048576) :
    Calls Tryd.prog 61 #[urlV sc ho pa po] w fun e w' => e = .returned (if urlB sc ho pa po = true then originV sc ho po 0 else originV ⟨#[]⟩ ⟨#[]⟩ 0 0) ∧ Below w.heap.size w w' := by
  have H1 := fun W (h : MaxI W) => urlRight_any sc ho pa po W h hh
  have HG : Hid (∀ o o', MaxI ((w.alloc o).alloc o')) := fun o o' => hG.on (((Below.refl _ _).alloc (Nat.le_refl _) _).alloc (by simp) _)
  clear hG
  unfold urlV at H1 ⊢
  cases hu : urlB sc ho pa po with
  | false =>
    rw [hu] at H1
    rw [if_neg (by simp)]
    have G1 : Hid (∀ W, MaxI W → Calls Tryd.prog 31 #[.agg #[.string sc, .string ho, .int .i64 po, .string pa]] W fun e w' => e = .returned (.bool false) ∧ Below W.heap.size W w') := H1
    clear H1 hu
    go_enter Tryd.func61, Tryd.ntmps61
    go_wp2_with fail
    refine (G1.out _ (HG.out _ _)).mono ?_
    rintro e w1 ⟨rfl, hb⟩
    obtain ⟨hc, hf⟩ := bcell hb
    go_wp2
    refine bodyPost_ret (v := originV ⟨#[]⟩ ⟨#[]⟩ 0 0) (by simp [originV, results, Tryd.results61, go_sem, hc]) rfl ⟨rfl, ?_⟩
    exact Below.setCell (Below.setCell (Below.setCell (Below.setCell ((((Below.refl _ _).alloc (Nat.le_refl _) _).alloc (by simp) _).trans (hb.mono (by simp; omega))) (by simp) _) (by simp) _) (by simp) _) (by simp) _
  | true =>
    obtain ⟨h1, h2, _, _, _⟩ := urlB_parts hu
    have G2 : Hid (∀ W, Calls Tryd.prog 78 #[.string sc, .string ⟨#[]⟩] W fun e w' => e = .returned (.string sc) ∧ Below W.heap.size W w') := fun W => together_empty sc W (by omega)
    have G3 : Hid (∀ W, Calls Tryd.prog 78 #[.string ho, .string ⟨#[]⟩] W fun e w' => e = .returned (.string ho) ∧ Below W.heap.size W w') := fun W => together_empty ho W (by omega)
    rw [hu] at H1
    rw [if_pos rfl]
    have G1 : Hid (∀ W, MaxI W → Calls Tryd.prog 31 #[.agg #[.string sc, .string ho, .int .i64 po, .string pa]] W fun e w' => e = .returned (.bool true) ∧ Below W.heap.size W w') := H1
    clear H1 hu h1 h2
    go_enter Tryd.func61, Tryd.ntmps61
    go_wp2_with fail
    refine (G1.out _ (HG.out _ _)).mono ?_
    rintro e w1 ⟨rfl, hb⟩
    have hz1 : w.heap.size + 1 < w1.heap.size := by have := hb.size; simp at this; omega
    have HB : Hid (Below w.heap.size w w1) := (((Below.refl _ _).alloc (Nat.le_refl _) _).alloc (by simp) _).trans (hb.mono (by simp; omega))
    obtain ⟨hc, hf⟩ := bcell hb
    have c0 : w1.cell? ⟨w.heap.size, 0, none⟩ = some (.string sc) := by rw [hc _ _ (by simp <;> omega), World.cell?_alloc_lt _ _ ⟨w.heap.size, 0, none⟩ (by simp)]; simp
    have c1 : w1.cell? ⟨w.heap.size, 1, none⟩ = some (.string ho) := by rw [hc _ _ (by simp <;> omega), World.cell?_alloc_lt _ _ ⟨w.heap.size, 1, none⟩ (by simp)]; simp
    have c2 : w1.cell? ⟨w.heap.size, 2, none⟩ = some (.int .i64 po) := by rw [hc _ _ (by simp <;> omega), World.cell?_alloc_lt _ _ ⟨w.heap.size, 2, none⟩ (by simp)]; simp
    have r0 : w1.cell? ⟨w.heap.size + 1, 0, none⟩ = some (.string ⟨#[]⟩) := by rw [hc _ _ (by simp <;> omega), World.cell?_alloc_at _ _ _ _ (by simp)]; rfl
    have r1 : w1.cell? ⟨w.heap.size + 1, 1, none⟩ = some (.string ⟨#[]⟩) := by rw [hc _ _ (by simp <;> omega), World.cell?_alloc_at _ _ _ _ (by simp)]; rfl
    have r2 : w1.cell? ⟨w.heap.size + 1, 2, none⟩ = some (.int .i64 0) := by rw [hc _ _ (by simp <;> omega), World.cell?_alloc_at _ _ _ _ (by simp)]; rfl
    have r3 : w1.cell? ⟨w.heap.size + 1, 3, none⟩ = some (.int .i64 0) := by rw [hc _ _ (by simp <;> omega), World.cell?_alloc_at _ _ _ _ (by simp)]; rfl
    have hfz : ∀ o, w1.frozen? ⟨w.heap.size + 1, o, none⟩ = false := fun o => by rw [hf _ _ (by simp <;> omega)]; simp
    have f0 := hfz 0
    have f1 := hfz 1
    have f2 := hfz 2
    have f3 := hfz 3
    clear hb hc hf hfz
    go_wp2_with fail
    go_region_held3 (fun w' => w.heap.size + 1 < w'.heap.size ∧ w'.cell? ⟨w.heap.size, 0, none⟩ = some (.string sc) ∧ w'.cell? ⟨w.heap.size, 1, none⟩ = some (.string ho) ∧ w'.cell? ⟨w.heap.size, 2, none⟩ = some (.int .i64 po)) (go_keep)
      (first
        | (go_at_call_of 78 (Value.string sc); refine (G2.out _).mono ?_; rintro e wA ⟨rfl, hbA⟩; have TA := OfAt.below (g := w.heap.size) (sc := sc) (ho := ho) (po := po) (by unfold OfAt; go_keep) hbA; obtain ⟨zA, p0A, p1A, p2A, q0A, q1A, q2A, q3A, f0A, f1A, f2A, f3A⟩ := TA)
        | (go_at_call_of 78 (Value.string ho); refine (G3.out _).mono ?_; rintro e wB ⟨rfl, hbB⟩; have TB := OfAt.below (g := w.heap.size) (sc := sc) (ho := ho) (po := po) (by unfold OfAt; go_keep) hbB; obtain ⟨zB, p0B, p1B, p2B, q0B, q1B, q2B, q3B, f0B, f1B, f2B, f3B⟩ := TB))
    have HBB : Hid (Below w.heap.size w wB) := (HB.out.trans (((Below.refl _ _).drew).trans (hbA.mono (by simp; omega)))).trans (hbB.mono (by omega))
    clear hbA hbB
    go_wp2
    refine bodyPost_ret (v := originV sc ho po 0) (by simp [originV, results, Tryd.results61, go_sem, q0B, q1B, q2B, q3B]) rfl ⟨rfl, ?_⟩
    exact Below.setCell (Below.setCell (Below.setCell (Below.setCell HBB.out (by simp) _) (by simp) _) (by simp) _) (by simp) _
theorem sameF_eq {sc ho : ByteArray} {po no : Int} {sc2 ho2 : ByteArray} {po2 no2 : Int} (h : sameF sc ho po no sc2 ho2 po2 no2 = true) : sc = sc2 ∧ ho = ho2 ∧ po = po2 ∧ no = no2 := by
  unfold sameF at h
  simp only [Bool.and_eq_true, beq_iff_eq] at h
  obtain ⟨⟨⟨h1, h2⟩, h3⟩, h4⟩ := h
  rw [ByteArray.toList_eq, ByteArray.toList_eq] at h1 h2
  refine ⟨?_, ?_, h3, h4⟩
  · cases sc; cases sc2; congr 1; exact Array.toList_inj.1 h1
  · cases ho; cases ho2; congr 1; exact Array.toList_inj.1 h2
set_option maxRecDepth 10000 in
set_option maxHeartbeats 400000 in
theorem originSame_any (sc ho : ByteArray) (po no : Int) (sc2 ho2 : ByteArray) (po2 no2 : Int) (w : World) (hG : MaxI w) (hh : ho.size ≤ 1048576) :
    Calls Tryd.prog 60 #[originV sc ho po no, originV sc2 ho2 po2 no2] w fun e w' => e = .returned (.bool (sameO sc ho po no sc2 ho2 po2 no2)) ∧ Below w.heap.size w w' := by
  have H1 := fun W (h : MaxI W) => originRight_any sc ho po no W h hh
  have HG : Hid (∀ o o', MaxI ((w.alloc o).alloc o')) := fun o o' => hG.on (((Below.refl _ _).alloc (Nat.le_refl _) _).alloc (by simp) _)
  have HS : Hid (sameO sc ho po no sc2 ho2 po2 no2 = (originB sc ho po no && originB sc2 ho2 po2 no2 && sameF sc ho po no sc2 ho2 po2 no2)) := rfl
  have HF : Hid (sameF sc ho po no sc2 ho2 po2 no2 = ((sc.toList == sc2.toList) && (ho.toList == ho2.toList) && (po == po2) && (no == no2))) := rfl
  have HE : Hid (sameF sc ho po no sc2 ho2 po2 no2 = true → originB sc2 ho2 po2 no2 = originB sc ho po no) := fun h => by
    obtain ⟨rfl, rfl, rfl, rfl⟩ := sameF_eq h
    rfl
  generalize originB sc ho po no = b at *
  unfold originV at H1 ⊢
  have G1 : Hid (∀ W, MaxI W → Calls Tryd.prog 77 #[.agg #[.string sc, .string ho, .int .i64 po, .int .i64 no]] W fun e w' => e = .returned (.bool b) ∧ Below W.heap.size W w') := H1
  clear H1 hG
  cases hs : sameF sc ho po no sc2 ho2 po2 no2 with
  | false =>
    have HQ : Hid (sameO sc ho po no sc2 ho2 po2 no2 = false) := by show _ = _; rw [HS.out, hs]; simp
    rw [HF.out] at hs
    have HW : Hid (∀ o o', Below w.heap.size w ((w.alloc o).alloc o')) := fun o o' => ((Below.refl _ _).alloc (Nat.le_refl _) _).alloc (by simp) _
    cases e1 : (sc.toList == sc2.toList) with
    | false =>
      go_enter Tryd.func60, Tryd.ntmps60
      go_wp2
      go_ret
      exact ⟨ret_bool HQ.out.symm, HW.out _ _⟩
    | true =>
      cases e2 : (ho.toList == ho2.toList) with
      | false =>
        go_enter Tryd.func60, Tryd.ntmps60
        go_wp2
        go_ret
        exact ⟨ret_bool HQ.out.symm, HW.out _ _⟩
      | true =>
        cases e3 : (po == po2) with
        | false =>
          go_enter Tryd.func60, Tryd.ntmps60
          go_wp2
          go_ret
          exact ⟨ret_bool HQ.out.symm, HW.out _ _⟩
        | true =>
          have e4 : (no == no2) = false := by rw [e1, e2, e3] at hs; exact hs
          go_enter Tryd.func60, Tryd.ntmps60
          go_wp2
          go_ret
          exact ⟨ret_bool HQ.out.symm, HW.out _ _⟩
  | true =>
    have HQ : Hid (sameO sc ho po no sc2 ho2 po2 no2 = b) := by show _ = _; rw [HS.out, hs, HE.out hs]; simp
    obtain ⟨rfl, rfl, rfl, rfl⟩ := sameF_eq hs
    clear hs HS HF HE
    go_enter Tryd.func60, Tryd.ntmps60
    go_wp2_with fail
    refine (G1.out _ (HG.out _ _)).mono ?_
    rintro e w1 ⟨rfl, hb⟩
    go_wp2
    all_goals
      go_ret
      exact ⟨ret_bool HQ.out.symm, (((Below.refl _ _).alloc (Nat.le_refl _) _).alloc (by simp) _).trans (hb.mono (by simp; omega))⟩
end Go.Proofs.YtclpamjgglfljaaDoor

/- What a right rule is, in the words of the library's functions. -/
namespace Go.Proofs.YtclpamjgglfljaaDoor

theorem findTo_none {t x : ByteArray} : ∀ {n : Nat}, findTo t x n = none → ∀ i, i < n → ¬ (i + x.size ≤ t.size ∧ isAt t x i = true)
  | 0, _, i, hi => absurd hi (by omega)
  | n + 1, h, i, hi => by
    rw [findTo] at h
    cases hf : findTo t x n with
    | some m => rw [hf] at h; cases h
    | none =>
      rw [hf] at h
      simp only at h
      by_cases e : i = n
      · subst e
        intro hc
        rw [if_pos hc] at h; cases h
      · exact findTo_none hf i (by omega)
theorem isAt_one {t : ByteArray} {c : UInt8} {i : Nat} (h : i < t.size) : isAt t ⟨#[c]⟩ i = true ↔ t.data.toList[i]? = some c := by
  have e : (t.extract i (i + (⟨#[c]⟩ : ByteArray).size)).toList = (t.data.toList.drop i).take 1 := by
    rw [Lib.toList_data, extract_list]
    rw [show (⟨#[c]⟩ : ByteArray).size = 1 from rfl, Nat.add_sub_cancel_left]
  have hl : i < t.data.toList.length := by simpa using h
  unfold isAt
  rw [e, Lib.toList_data, beq_iff_eq, List.drop_eq_getElem_cons hl, List.take_succ_cons, List.take_zero, List.getElem?_eq_getElem hl]
  simp
theorem find_mem (t : ByteArray) (c : UInt8) : 0 ≤ findI t ⟨#[c]⟩ ↔ c ∈ t.data.toList := by
  have h1 : (⟨#[c]⟩ : ByteArray).size = 1 := rfl
  unfold findI findN
  cases hf : findTo t ⟨#[c]⟩ (t.size + 1) with
  | some k =>
    simp only
    obtain ⟨_, hk, ha⟩ := findTo_lt hf
    rw [h1] at hk
    exact ⟨fun _ => List.mem_of_getElem? ((isAt_one (by omega)).1 ha), fun _ => by omega⟩
  | none =>
    simp only
    refine ⟨fun h => absurd h (by omega), fun h => ?_⟩
    obtain ⟨i, hi, e⟩ := List.getElem_of_mem h
    have hi2 : i < t.size := by simpa using hi
    exact absurd ⟨by rw [h1]; omega, (isAt_one hi2).2 (by rw [List.getElem?_eq_getElem hi, e])⟩ (findTo_none hf i (by omega))
theorem bytes_ext {a b : ByteArray} (h : a.data.toList = b.data.toList) : a = b := by
  cases a; cases b
  congr 1
  exact Array.toList_inj.1 h
theorem extract_to (s : ByteArray) (k : Nat) : (s.extract k s.size).data.toList = s.data.toList.drop k := by
  rw [extract_list, List.take_of_length_le]
  rw [List.length_drop, ← Lib.size_eq]
  omega
theorem bangB_lib (s : ByteArray) : bangB s = Lib.hasPrefix s.data.toList [33] := by
  have e := Lib.hasPrefix_raw s ⟨#[33]⟩
  have hd : (⟨#[33]⟩ : ByteArray).data.toList = [33] := rfl
  rw [hd] at e
  rw [← e]
  have h1 : (⟨#[33]⟩ : ByteArray).size = 1 := rfl
  unfold bangB
  rw [h1]
  by_cases h : 0 < s.size
  · have e2 := isAt_one (t := s) (c := 33) h
    unfold isAt at e2
    rw [h1, Nat.zero_add] at e2
    rw [decide_eq_true (show 1 ≤ s.size by omega), Bool.true_and]
    have hl : 0 < s.data.toList.length := by simpa using h
    rw [List.getElem?_eq_getElem hl, byte_list h] at e2
    rw [Bool.eq_iff_iff, decide_eq_true_iff, e2]
    constructor
    · rintro ⟨_, h3⟩
      congr 1
      exact UInt8.toNat_inj.1 h3
    · intro h3
      exact ⟨h, by rw [Option.some.inj h3]; rfl⟩
  · rw [decide_eq_false (show ¬ 1 ≤ s.size by omega), Bool.false_and, decide_eq_false_iff_not]
    rintro ⟨h2, _⟩; exact h h2
theorem starB_lib (s : ByteArray) : starB s = (decide (2 < s.size) && Lib.hasPrefix s.data.toList [42, 46]) := by
  have e := Lib.hasPrefix_raw s ⟨#[42, 46]⟩
  have hd : (⟨#[42, 46]⟩ : ByteArray).data.toList = [42, 46] := rfl
  have hd2 : (⟨#[42, 46]⟩ : ByteArray).toList = [42, 46] := by rw [Lib.toList_data]
  have h2 : (⟨#[42, 46]⟩ : ByteArray).size = 2 := rfl
  rw [hd, hd2, h2] at e
  unfold starB
  rw [← e]
  by_cases h : 2 < s.size
  · rw [decide_eq_true (show 2 ≤ s.size by omega), Bool.true_and]
  · rw [decide_eq_false h]; simp
/-- without the exclamation mark -/
def unbang (s : ByteArray) : ByteArray := ⟨(Lib.trimPrefix s.data.toList [33]).toArray⟩
theorem unbang_yes {s : ByteArray} (h : bangB s = true) : unbang s = s.extract 1 s.size := by
  rw [bangB_lib] at h
  apply bytes_ext
  rw [extract_to, unbang, Lib.trimPrefix, if_pos h]
  simp
/-- without the star and the point -/
def unstar (s : ByteArray) : ByteArray := ⟨(Lib.trimPrefix s.data.toList [42, 46]).toArray⟩
theorem hostB_starpoint : hostB ⟨#[42, 46]⟩ = false := hostB_at 0 (by decide) (by decide)
theorem hostB_empty : hostB ⟨#[]⟩ = false := hostB_at 0 (by decide) (by decide)
theorem ruleB_yes {s : ByteArray} (h : bangB s = true) : ruleB s = (hostB (unbang s) && decide (0 ≤ Lib.indexByte (unbang s).data.toList 46)) := by
  rw [ruleB_bang h, unbang_yes h]
  congr 1
  rw [← Lib.contains_iff_indexByte, extract_to, Bool.eq_iff_iff, decide_eq_true_iff, find_mem, List.contains_iff_mem]
  have hp : Lib.hasPrefix s.data.toList [33] = true := by rw [← bangB_lib]; exact h
  unfold Lib.hasPrefix at hp
  obtain ⟨r, hr⟩ := List.isPrefixOf_iff_prefix.1 hp
  rw [← hr]
  simp
theorem ruleB_no {s : ByteArray} (h : bangB s = false) : ruleB s = hostB (unstar s) := by
  have hst := starB_lib s
  cases hp : Lib.hasPrefix s.data.toList [42, 46] with
  | false =>
    rw [hp, Bool.and_false] at hst
    rw [ruleB_host h hst]
    congr 1
    apply bytes_ext
    rw [unstar, Lib.trimPrefix, if_neg (by rw [hp]; decide)]
  | true =>
    rw [hp, Bool.and_true] at hst
    by_cases h2 : 2 < s.size
    · rw [decide_eq_true h2] at hst
      rw [ruleB_star h hst]
      congr 1
      apply bytes_ext
      rw [extract_to, unstar, Lib.trimPrefix, if_pos hp]
      simp
    · rw [decide_eq_false h2] at hst
      rw [ruleB_host h hst]
      have hle : s.data.toList.length ≤ 2 := by rw [← Lib.size_eq]; omega
      unfold Lib.hasPrefix at hp
      have hp2 := List.isPrefixOf_iff_prefix.1 hp
      have e : s.data.toList = [42, 46] := (hp2.eq_of_length_le (by simpa using hle)).symm
      have e1 : s = ⟨#[42, 46]⟩ := bytes_ext (by rw [e])
      have e2 : unstar s = ⟨#[]⟩ := bytes_ext (by rw [unstar, e]; rfl)
      rw [e2, hostB_empty, e1, hostB_starpoint]
theorem unbang_le (s : ByteArray) : (unbang s).size ≤ s.size := by
  have : (unbang s).size = (Lib.trimPrefix s.data.toList [33]).length := by simp [unbang, ByteArray.size]
  rw [this, Lib.size_eq s]
  unfold Lib.trimPrefix
  split
  · rw [List.length_drop]; omega
  · exact Nat.le_refl _
theorem unstar_le (s : ByteArray) : (unstar s).size ≤ s.size := by
  have : (unstar s).size = (Lib.trimPrefix s.data.toList [42, 46]).length := by simp [unstar, ByteArray.size]
  rw [this, Lib.size_eq s]
  unfold Lib.trimPrefix
  split
  · rw [List.length_drop]; omega
  · exact Nat.le_refl _
end Go.Proofs.YtclpamjgglfljaaDoor

/- The walk of the program's RuleRight. -/
namespace Go.Proofs.YtclpamjgglfljaaDoor
open Go.RowKit

theorem cutBang_call (s : ByteArray) (w : World) :
    Calls Tryd.prog 70 #[.string s, .string ⟨#[33]⟩] w fun e w' => e = .returned (.tuple #[.string (unbang s), .bool (bangB s)]) ∧ w' = w := by
  have h := Any.strings_CutPrefix Tryd.lays103 s ⟨#[33]⟩ w
  rw [bangB_lib]
  exact h
theorem trimStar_call (s : ByteArray) (w : World) :
    Calls Tryd.prog 73 #[.string s, .string ⟨#[42, 46]⟩] w fun e w' => e = .returned (.string (unstar s)) ∧ w' = w :=
  Any.strings_TrimPrefix Tryd.lays101 s ⟨#[42, 46]⟩ w
theorem hasPoint_call (s : ByteArray) (w : World) :
    Calls Tryd.prog 72 #[.string s, .string ⟨#[46]⟩] w fun e w' => e = .returned (.bool (decide (0 ≤ Lib.indexByte s.data.toList 46))) ∧ w' = w :=
  Any.strings_Contains_one Tryd.lays144 s 46 w

set_option maxRecDepth 10000 in
set_option maxHeartbeats 400000 in
theorem ruleRight_any (s : ByteArray) (w : World) (hG : MaxI w) (hs : s.size ≤ 1048576) :
    Calls Tryd.prog 51 #[.string s] w fun e w' => e = .returned (.bool (ruleB s)) ∧ Below w.heap.size w w' := by
  have HC : Hid (∀ W, Calls Tryd.prog 70 #[.string s, .string ⟨#[33]⟩] W fun e w' => e = .returned (.tuple #[.string (unbang s), .bool (bangB s)]) ∧ w' = W) := fun W => cutBang_call s W
  cases hb : bangB s with
  | true =>
    have HR : Hid (ruleB s = (hostB (unbang s) && decide (0 ≤ Lib.indexByte (unbang s).data.toList 46))) := ruleB_yes hb
    rw [hb] at HC
    have hz := unbang_le s
    have HH : Hid (Calls Tryd.prog 71 #[.string (unbang s)] w fun e w' => e = .returned (.bool (hostB (unbang s))) ∧ Below w.heap.size w w') := hostRight_any (unbang s) w hG (by omega)
    have HP : Hid (∀ W, Calls Tryd.prog 72 #[.string (unbang s), .string ⟨#[46]⟩] W fun e w' => e = .returned (.bool (decide (0 ≤ Lib.indexByte (unbang s).data.toList 46))) ∧ w' = W) := fun W => hasPoint_call (unbang s) W
    clear hb hG hz
    generalize decide (0 ≤ Lib.indexByte (unbang s).data.toList 46) = p at *
    generalize hostB (unbang s) = b at *
    generalize unbang s = u at *
    cases b with
    | false =>
      go_enter Tryd.func51, Tryd.ntmps51
      go_wp2_with (first | (go_at_call 70; refine (HC.out _).mono ?_; rintro e w1 ⟨rfl, rfl⟩) | (go_at_call 71; refine HH.out.mono ?_; rintro e w2 ⟨rfl, hb2⟩))
      go_ret
      exact ⟨ret_bool (by rw [HR.out]; rfl), hb2⟩
    | true =>
      go_enter Tryd.func51, Tryd.ntmps51
      go_wp2_with (first | (go_at_call 70; refine (HC.out _).mono ?_; rintro e w1 ⟨rfl, rfl⟩) | (go_at_call 71; refine HH.out.mono ?_; rintro e w2 ⟨rfl, hb2⟩) | (go_at_call 72; refine (HP.out _).mono ?_; rintro e w3 ⟨rfl, rfl⟩))
      go_ret
      exact ⟨ret_bool (by rw [HR.out]; rfl), hb2⟩
  | false =>
    have HR : Hid (ruleB s = hostB (unstar s)) := ruleB_no hb
    rw [hb] at HC
    have hz := unstar_le s
    have HH : Hid (Calls Tryd.prog 71 #[.string (unstar s)] w fun e w' => e = .returned (.bool (hostB (unstar s))) ∧ Below w.heap.size w w') := hostRight_any (unstar s) w hG (by omega)
    have HP : Hid (∀ W, Calls Tryd.prog 73 #[.string s, .string ⟨#[42, 46]⟩] W fun e w' => e = .returned (.string (unstar s)) ∧ w' = W) := fun W => trimStar_call s W
    clear hb hG hz
    generalize hostB (unstar s) = b at *
    generalize unstar s = u at *
    go_enter Tryd.func51, Tryd.ntmps51
    go_wp2_with (first | (go_at_call 70; refine (HC.out _).mono ?_; rintro e w1 ⟨rfl, rfl⟩) | (go_at_call 71; refine HH.out.mono ?_; rintro e w2 ⟨rfl, hb2⟩) | (go_at_call 73; refine (HP.out _).mono ?_; rintro e w3 ⟨rfl, rfl⟩))
    go_ret
    exact ⟨ret_bool (by rw [HR.out]), hb2⟩
end Go.Proofs.YtclpamjgglfljaaDoor

/- The walk of the program's RulesRight. -/
namespace Go.Proofs.YtclpamjgglfljaaDoor
open Go.RowKit

theorem rulesB_many {n : Nat} {f : Nat → ByteArray} (h : 20 < n) : rulesB n f = false := by unfold rulesB; rw [decide_eq_false (show ¬ n ≤ 20 by omega), Bool.and_false]

set_option maxRecDepth 10000 in
set_option maxHeartbeats 1000000 in
theorem rulesRight_any (v : Value) (n B : Nat) (f : Nat → ByteArray) (w : World) (hG : MaxI w) (hs : SliceS w B v n f) (hn : n ≤ 1048576) (hf : ∀ i, i < n → (f i).size ≤ 1048576) :
    Calls Tryd.prog 30 #[v] w fun e w' => e = .returned (.bool (rulesB n f)) ∧ Below w.heap.size w w' := by
  obtain ⟨p, cap, rfl, hg⟩ := hs
  by_cases h20 : 20 < n
  · have HR : Hid (rulesB n f = false) := rulesB_many h20
    go_enter Tryd.func30, Tryd.ntmps30
    go_wp2
    go_ret
    exact ⟨ret_bool HR.out.symm, Below.refl _ _⟩
  have HG : Hid (0 < n → ∃ g, p = some ⟨g, 0, none⟩ ∧ B ≤ g ∧ g < w.heap.size ∧ ∀ j, j < n → w.cell? ⟨g, j, none⟩ = some (.string (f j)) ∧ w.frozen? ⟨g, j, none⟩ = false) := hg
  have HM : Hid (MaxI w) := hG
  have HF : Hid (∀ i, i < n → (f i).size ≤ 1048576) := hf
  have HA : Hid ((∀ k, k < n → okR f k = false → rulesB n f = false) ∧ ((∀ i, i < n → okR f i = true) → rulesB n f = true)) := ⟨fun k h hk => rulesB_at k h hk, fun h => by rw [rulesB_all h, decide_eq_true_iff]; omega⟩
  clear hg hf hG
  have q20 : decide ((20 : Int) < (n : Int)) = false := by rw [decide_eq_false_iff_not]; omega
  have hge : ∀ (t : TypeId) (a b : ByteArray), binOp .geq t (.string a) (.string b) = pure (.bool (!(Op.bytesLess a.toList b.toList))) := geq_text
  generalize rulesB n f = R at *
  go_enter Tryd.func30, Tryd.ntmps30
  go_wp2
  go_loopw [10] (fun i wr => ∃ k : Nat, k ≤ n ∧ i = .int .i64 k ∧ Hid (Below w.heap.size w wr) ∧ Hid (∀ j, j < k → okR f j = true)) (fun i _ => n - (intOf i).toNat)
  case atStart => exact ⟨0, Nat.zero_le _, rfl, Below.refl _ _, fun j hj => absurd hj (by omega)⟩
  case round =>
    obtain ⟨k, hk, rfl, HB, HR⟩ := hrel
    by_cases hlt : k < n
    · obtain ⟨g, rfl, -, hgw, hc⟩ := HG.out (by omega)
      have hz : g < wr.heap.size := Nat.lt_of_lt_of_le hgw HB.out.size
      have hck : wr.cell? ⟨g, k, none⟩ = some (.string (f k)) := by rw [(bcell HB.out).1 _ _ hgw]; exact (hc k hlt).1
      have KR0 := ruleRight_any (f k) wr (HM.out.on HB.out) (HF.out k hlt)
      have k0 : (0 : Int) ≤ k := by omega
      have k1 : (k : Int) < n := by omega
      cases hr : ruleB (f k) with
      | false =>
        have HQ : Hid (R = false) := HA.out.1 k hlt (by cases k with | zero => exact hr | succ m => rw [okR, hr]; rfl)
        rw [hr] at KR0
        have KR : Hid (Calls Tryd.prog 51 #[.string (f k)] wr fun e w' => e = .returned (.bool false) ∧ Below wr.heap.size wr w') := KR0
        clear KR0 hr hc
        generalize f k = t at *
        go_wp2_with (go_at_call 51; refine KR.out.mono ?_; rintro e w1 ⟨rfl, hb1⟩)
        go_ret
        exact ⟨ret_bool HQ.out.symm, HB.out.trans (hb1.mono HB.out.size)⟩
      | true =>
        rw [hr] at KR0
        have KR : Hid (Calls Tryd.prog 51 #[.string (f k)] wr fun e w' => e = .returned (.bool true) ∧ Below wr.heap.size wr w') := KR0
        clear KR0
        cases k with
        | zero =>
          have HO : Hid (okR f 0 = true) := hr
          clear hr hc
          generalize f 0 = t at *
          go_wp2_with (go_at_call 51; refine KR.out.mono ?_; rintro e w1 ⟨rfl, hb1⟩)
          go_roundw
          case rel => exact ⟨1, by omega, by go_num, HB.out.trans (hb1.mono HB.out.size), okR_succ HR.out HO.out⟩
          case measure => simp [intOf]; omega
        | succ m =>
          have hcm : wr.cell? ⟨g, m, none⟩ = some (.string (f m)) := by rw [(bcell HB.out).1 _ _ hgw]; exact (hc m (by omega)).1
          have HCM : Hid (∀ w1, Below wr.heap.size wr w1 → w1.cell? ⟨g, m, none⟩ = some (.string (f m))) := fun w1 hb1 => by rw [(bcell hb1).1 _ _ hz]; exact hcm
          have hw : ((m + 1 : Nat) : Int) - 1 = (m : Int) := by omega
          cases hl : Op.bytesLess (f m).toList (f (m + 1)).toList with
          | true =>
            have HO : Hid (okR f (m + 1) = true) := by show _ = _; rw [okR, hr, hl]; rfl
            clear hr hc hcm
            generalize f m = t0 at *
            generalize f (m + 1) = t at *
            go_wp2_with (go_at_call 51; refine KR.out.mono ?_; rintro e w1 ⟨rfl, hb1⟩; have hcm1 := HCM.out w1 hb1)
            go_roundw
            case rel => exact ⟨m + 2, by omega, by go_num, HB.out.trans (hb1.mono HB.out.size), okR_succ HR.out HO.out⟩
            case measure => simp [intOf]; omega
          | false =>
            have HQ : Hid (R = false) := HA.out.1 (m + 1) hlt (by rw [okR, hr, hl]; rfl)
            clear hr hc hcm
            generalize f m = t0 at *
            generalize f (m + 1) = t at *
            go_wp2_with (go_at_call 51; refine KR.out.mono ?_; rintro e w1 ⟨rfl, hb1⟩; have hcm1 := HCM.out w1 hb1)
            go_ret
            exact ⟨ret_bool HQ.out.symm, HB.out.trans (hb1.mono HB.out.size)⟩
    · go_wp2
      go_ret
      exact ⟨ret_bool (HA.out.2 (fun i hi => HR.out i (by omega))).symm, HB.out⟩
end Go.Proofs.YtclpamjgglfljaaDoor

/- The walks of the program's wentTo and FrameGo. Written by implgo.py. -/
namespace Go.Proofs.YtclpamjgglfljaaDoor
open Go.RowKit

def q9w0 : Oper := { dst := some 5, op := Op.fieldAddr 54 (Operand.tmp 2) 4, type := 0, pos := "l09_frame.go:198", after := #[], guard := none }
def q9w1 : Oper := { dst := some 6, op := Op.load 4 (Operand.tmp 5), type := 4, pos := "l09_frame.go:198", after := #[{ on := 0, ground := Ground.data }], guard := none }
def q9w2 : Oper := { dst := some 7, op := Op.move (Operand.tmp 6), type := 4, pos := "l09_frame.go:198", after := #[{ on := 1, ground := Ground.data }], guard := none }
def q9w3 : Oper := { dst := some 8, op := Op.fieldAddr 54 (Operand.tmp 2) 2, type := 0, pos := "l09_frame.go:198", after := #[{ on := 2, ground := Ground.guard }], guard := some (2, true) }
def q9w4 : Oper := { dst := some 9, op := Op.load 35 (Operand.tmp 8), type := 35, pos := "l09_frame.go:198", after := #[{ on := 3, ground := Ground.data }, { on := 2, ground := Ground.guard }], guard := some (2, true) }
def q9w5 : Oper := { dst := some 10, op := Op.call { callee := Callee.value (Operand.func 61), args := #[Operand.tmp 9], argTypes := #[35] }, type := 70, pos := "l09_frame.go:198", after := #[{ on := 4, ground := Ground.data }, { on := 2, ground := Ground.chain }, { on := 2, ground := Ground.guard }], guard := some (2, true) }
def q9w6 : Oper := { dst := some 11, op := Op.load 35 (Operand.tmp 3), type := 35, pos := "l09_frame.go:198", after := #[{ on := 2, ground := Ground.guard }], guard := some (2, true) }
def q9w7 : Oper := { dst := some 12, op := Op.call { callee := Callee.value (Operand.func 61), args := #[Operand.tmp 11], argTypes := #[35] }, type := 70, pos := "l09_frame.go:198", after := #[{ on := 6, ground := Ground.data }, { on := 5, ground := Ground.chain }, { on := 2, ground := Ground.guard }], guard := some (2, true) }
def q9w8 : Oper := { dst := some 13, op := Op.call { callee := Callee.value (Operand.func 60), args := #[Operand.tmp 10, Operand.tmp 12], argTypes := #[70, 70] }, type := 4, pos := "l09_frame.go:198", after := #[{ on := 5, ground := Ground.data }, { on := 7, ground := Ground.data }, { on := 7, ground := Ground.chain }, { on := 2, ground := Ground.guard }], guard := some (2, true) }
def q9w9 : Oper := { dst := some 14, op := Op.pick (Operand.tmp 7) (Operand.tmp 13) (Operand.const (Value.bool false)), type := 4, pos := "l09_frame.go:198", after := #[{ on := 2, ground := Ground.data }, { on := 8, ground := Ground.data }], guard := none }
def q9w10 : Oper := { dst := some 15, op := Op.fieldAddr 54 (Operand.tmp 2) 4, type := 0, pos := "l09_frame.go:198", after := #[{ on := 0, ground := Ground.phase }, { on := 1, ground := Ground.phase }, { on := 2, ground := Ground.phase }, { on := 3, ground := Ground.phase }, { on := 4, ground := Ground.phase }, { on := 5, ground := Ground.phase }, { on := 6, ground := Ground.phase }, { on := 7, ground := Ground.phase }, { on := 8, ground := Ground.phase }, { on := 9, ground := Ground.phase }], guard := none }
def q9w11 : Oper := { dst := none, op := Op.store 4 (Operand.tmp 15) (Operand.tmp 14), type := 0, pos := "l09_frame.go:198", after := #[{ on := 10, ground := Ground.data }, { on := 9, ground := Ground.data }, { on := 8, ground := Ground.chain }, { on := 0, ground := Ground.phase }, { on := 1, ground := Ground.phase }, { on := 2, ground := Ground.phase }, { on := 3, ground := Ground.phase }, { on := 4, ground := Ground.phase }, { on := 5, ground := Ground.phase }, { on := 6, ground := Ground.phase }, { on := 7, ground := Ground.phase }, { on := 8, ground := Ground.phase }, { on := 9, ground := Ground.phase }], guard := none }
open List (setIfInBounds_toArray set_cons_zero set_cons_succ)
set_option maxRecDepth 10000 in
set_option maxHeartbeats 16000000 in
theorem wentTo_any (y : Fr) (sc ho pt : ByteArray) (po : Int) (w : World) (hG : MaxI w) (hy : uF y = true) (hu : urlB sc ho pt po = true) :
    Calls Tryd.prog 36 #[frV y, .agg #[.string sc, .string ho, .int .i64 po, .string pt]] w fun e w' => e = .returned (frV (wentF y sc ho pt po)) ∧ Below w.heap.size w w' := by
  obtain ⟨yid, ypa, ysc, yho, ypo, ypt, ysb, yfl, ytc⟩ := y
  have hy1 : urlB ysc yho ypt ypo = true := hy
  obtain ⟨s1, s2, -, -, s3⟩ := urlB_parts hu
  obtain ⟨-, s4, -, -, -⟩ := urlB_parts hy1
  have KC : Hid (∀ W, Calls Tryd.prog 62 #[.agg #[.string sc, .string ho, .int .i64 po, .string pt]] W fun e w' => e = .returned (.agg #[.string sc, .string ho, .int .i64 po, .string pt]) ∧ Below W.heap.size W w') := fun W => urlCopy_any sc ho pt po W (by omega) (by omega) (by omega)
  obtain ⟨W5, hW5⟩ : ∃ W5, W5 = (((w.alloc (.cells #[.int .i64 yid, .int .i64 ypa, .string ysc, .string yho, .int .i64 ypo, .string ypt, .bool ysb, .bool yfl, .int .i64 ytc] 54)).alloc (.cells #[.string sc, .string ho, .int .i64 po, .string pt] 35)).alloc (.cells #[.int .i64 0, .int .i64 0, .string ⟨#[]⟩, .string ⟨#[]⟩, .int .i64 0, .string ⟨#[]⟩, .bool false, .bool false, .int .i64 0] 54)) := ⟨_, rfl⟩
  have HW5 : Hid (W5 = (((w.alloc (.cells #[.int .i64 yid, .int .i64 ypa, .string ysc, .string yho, .int .i64 ypo, .string ypt, .bool ysb, .bool yfl, .int .i64 ytc] 54)).alloc (.cells #[.string sc, .string ho, .int .i64 po, .string pt] 35)).alloc (.cells #[.int .i64 0, .int .i64 0, .string ⟨#[]⟩, .string ⟨#[]⟩, .int .i64 0, .string ⟨#[]⟩, .bool false, .bool false, .int .i64 0] 54))) := hW5
  have F5 : Hid (BoxV W5 w.heap.size [.int .i64 yid, .int .i64 ypa, .string ysc, .string yho, .int .i64 ypo, .string ypt, .bool ysb, .bool yfl, .int .i64 ytc]) := by show BoxV _ _ _; rw [hW5]; exact ((boxV_new w [.int .i64 yid, .int .i64 ypa, .string ysc, .string yho, .int .i64 ypo, .string ypt, .bool ysb, .bool yfl, .int .i64 ytc] 54).alloc _).alloc _
  have U5 : Hid (BoxV W5 (w.heap.size + 1) [.string sc, .string ho, .int .i64 po, .string pt]) := by
    show BoxV _ _ _
    rw [hW5]
    have h := boxV_new (w.alloc (.cells #[.int .i64 yid, .int .i64 ypa, .string ysc, .string yho, .int .i64 ypo, .string ypt, .bool ysb, .bool yfl, .int .i64 ytc] 54)) [.string sc, .string ho, .int .i64 po, .string pt] 35
    rw [World.size_alloc] at h
    exact h.alloc _
  have R5 : Hid (BoxV W5 (w.heap.size + 2) [.int .i64 0, .int .i64 0, .string ⟨#[]⟩, .string ⟨#[]⟩, .int .i64 0, .string ⟨#[]⟩, .bool false, .bool false, .int .i64 0]) := by
    show BoxV _ _ _
    rw [hW5]
    have h := boxV_new ((w.alloc (.cells #[.int .i64 yid, .int .i64 ypa, .string ysc, .string yho, .int .i64 ypo, .string ypt, .bool ysb, .bool yfl, .int .i64 ytc] 54)).alloc (.cells #[.string sc, .string ho, .int .i64 po, .string pt] 35)) [.int .i64 0, .int .i64 0, .string ⟨#[]⟩, .string ⟨#[]⟩, .int .i64 0, .string ⟨#[]⟩, .bool false, .bool false, .int .i64 0] 54
    rw [World.size_alloc, World.size_alloc] at h
    exact h
  have B5 : Hid (Below w.heap.size w W5) := by show Below _ _ _; rw [hW5]; exact (((Below.refl _ _).alloc (Nat.le_refl _) _).alloc (by simp) _).alloc (by simp; omega) _
  have KU : Hid (∀ W, Below W5.heap.size W5 W → Calls Tryd.prog 61 #[.agg #[.string sc, .string ho, .int .i64 po, .string pt]] W fun e w' => e = .returned (.agg #[.string sc, .string ho, .int .i64 po, .int .i64 0]) ∧ Below W.heap.size W w') := fun W hb => by
    have h := originOf_any sc ho pt po W ((hG.on B5.out).on hb) (by omega)
    rw [if_pos hu] at h
    exact h
  have KY1 : ∀ W, Below W5.heap.size W5 W → Calls Tryd.prog 61 #[.agg #[.string ysc, .string yho, .int .i64 ypo, .string ypt]] W fun e w' => e = .returned (.agg #[.string ysc, .string yho, .int .i64 ypo, .int .i64 0]) ∧ Below W.heap.size W w' := fun W hb => by
    have h := originOf_any ysc yho ypt ypo W ((hG.on B5.out).on hb) (by omega)
    rw [if_pos hy1] at h
    exact h
  have KS1 : ∀ W, Below W5.heap.size W5 W → Calls Tryd.prog 60 #[.agg #[.string ysc, .string yho, .int .i64 ypo, .int .i64 0], .agg #[.string sc, .string ho, .int .i64 po, .int .i64 0]] W fun e w' => e = .returned (.bool (sameF ysc yho ypo 0 sc ho po 0)) ∧ Below W.heap.size W w' := fun W hb => by
    have h := originSame_any ysc yho ypo 0 sc ho po 0 W ((hG.on B5.out).on hb) (by omega)
    have e : sameO ysc yho ypo 0 sc ho po 0 = sameF ysc yho ypo 0 sc ho po 0 := by
      have o1 : originB ysc yho ypo 0 = true := by rw [originB, if_pos rfl]; unfold urlB at hy1; rw [Bool.and_eq_true] at hy1; exact hy1.1
      have o2 : originB sc ho po 0 = true := by rw [originB, if_pos rfl]; unfold urlB at hu; rw [Bool.and_eq_true] at hu; exact hu.1
      rw [sameO, o1, o2]; rfl
    rw [e] at h
    exact h
  clear hW5 hG hy hu hy1 s1 s2 s3 s4
  unfold frV wentF
  dsimp only
  go_enter Tryd.func36, Tryd.ntmps36
  go_upto_region 1 with fail
  rw [← HW5.out]
  clear HW5
  generalize hfb : w.heap.size = fb at *
  have hfW : fb < W5.heap.size := F5.out.1
  have huW : fb + 1 < W5.heap.size := U5.out.1
  have hn1 : fb ≠ fb + 1 := by omega
  have hn2 : fb + 1 ≠ fb := by omega
  have f0 : W5.cell? ⟨fb, 0, none⟩ = some (.int .i64 yid) := F5.out.at (i := 0) rfl
  have f1 : W5.cell? ⟨fb, 1, none⟩ = some (.int .i64 ypa) := F5.out.at (i := 1) rfl
  have f2 : W5.cell? ⟨fb, 2, none⟩ = some (.string ysc) := F5.out.at (i := 2) rfl
  have f3 : W5.cell? ⟨fb, 3, none⟩ = some (.string yho) := F5.out.at (i := 3) rfl
  have f4 : W5.cell? ⟨fb, 4, none⟩ = some (.int .i64 ypo) := F5.out.at (i := 4) rfl
  have f5 : W5.cell? ⟨fb, 5, none⟩ = some (.string ypt) := F5.out.at (i := 5) rfl
  have f6 : W5.cell? ⟨fb, 6, none⟩ = some (.bool ysb) := F5.out.at (i := 6) rfl
  have f7 : W5.cell? ⟨fb, 7, none⟩ = some (.bool yfl) := F5.out.at (i := 7) rfl
  have f8 : W5.cell? ⟨fb, 8, none⟩ = some (.int .i64 ytc) := F5.out.at (i := 8) rfl
  have u0 : W5.cell? ⟨fb + 1, 0, none⟩ = some (.string sc) := U5.out.at (i := 0) rfl
  have u1 : W5.cell? ⟨fb + 1, 1, none⟩ = some (.string ho) := U5.out.at (i := 1) rfl
  have u2 : W5.cell? ⟨fb + 1, 2, none⟩ = some (.int .i64 po) := U5.out.at (i := 2) rfl
  have u3 : W5.cell? ⟨fb + 1, 3, none⟩ = some (.string pt) := U5.out.at (i := 3) rfl
  have ff7 : W5.frozen? ⟨fb, 7, none⟩ = false := F5.out.free (i := 7) rfl
  cases yfl with
  | false =>
    clear KY1 KS1
    refine wp_region_held_drew (S := (fun w' => w'.cell? ⟨fb, 0, none⟩ = some (.int .i64 yid) ∧ w'.cell? ⟨fb, 1, none⟩ = some (.int .i64 ypa) ∧ w'.cell? ⟨fb, 2, none⟩ = some (.string ysc) ∧ w'.cell? ⟨fb, 3, none⟩ = some (.string yho) ∧ w'.cell? ⟨fb, 4, none⟩ = some (.int .i64 ypo) ∧ w'.cell? ⟨fb, 5, none⟩ = some (.string ypt) ∧ w'.cell? ⟨fb, 6, none⟩ = some (.bool ysb) ∧ w'.cell? ⟨fb, 8, none⟩ = some (.int .i64 ytc) ∧ w'.cell? ⟨fb + 1, 0, none⟩ = some (.string sc) ∧ w'.cell? ⟨fb + 1, 1, none⟩ = some (.string ho) ∧ w'.cell? ⟨fb + 1, 2, none⟩ = some (.int .i64 po) ∧ w'.cell? ⟨fb + 1, 3, none⟩ = some (.string pt))) (by kernel_rfl) ?_ (fun hH0 => ?_)
    · (try dsimp only)
      go_keep
    refine takeY (i := 0) (oi := q9w0) (v := ?va00) rfl ?ha00 ?ra00
    case ha00 => (intro w hSw; (try dsimp only [q9w0] at hSw ⊢); go_simp; try with_reducible rfl)
    try simp only [q9w0, Act.put, setIfInBounds_toArray, set_cons_zero, set_cons_succ]
    refine wpAnyH_ready (rs := [1]) (by kernel_rfl) (by simp) ?_
    refine AllReadyH.cons (o := q9w1) rfl (fun K hK => ?_) AllReadyH.nil
    dsimp only [q9w1] at hK ⊢
    go_simp
    (skip)
    try (go_wp2_with fail)
    refine hK.out _ _ ?_ (fun hH1 => ?_)
    · (try dsimp only)
      (go_keep; all_goals (refine ⟨?_, ?_, ?_, ?_, ?_, ?_, ?_, ?_⟩ <;> (rw [World.cell?_setCell_other _ _ _ _ (by simp)]; assumption)))
    clear hK K hH0
    try simp only [q9w1, Act.put, setIfInBounds_toArray, set_cons_zero, set_cons_succ]
    refine takeY (i := 2) (oi := q9w2) (v := ?va02) rfl ?ha02 ?ra02
    case ha02 => (intro w hSw; (try dsimp only [q9w2] at hSw ⊢); go_simp; try with_reducible rfl)
    try simp only [q9w2, Act.put, setIfInBounds_toArray, set_cons_zero, set_cons_succ]
    refine takeN (i := 3) (oi := q9w3) rfl ?_
    try simp only [q9w3, Act.put, setIfInBounds_toArray, set_cons_zero, set_cons_succ]
    refine takeN (i := 4) (oi := q9w4) rfl ?_
    try simp only [q9w4, Act.put, setIfInBounds_toArray, set_cons_zero, set_cons_succ]
    refine takeN (i := 5) (oi := q9w5) rfl ?_
    try simp only [q9w5, Act.put, setIfInBounds_toArray, set_cons_zero, set_cons_succ]
    refine takeN (i := 6) (oi := q9w6) rfl ?_
    try simp only [q9w6, Act.put, setIfInBounds_toArray, set_cons_zero, set_cons_succ]
    refine takeN (i := 7) (oi := q9w7) rfl ?_
    try simp only [q9w7, Act.put, setIfInBounds_toArray, set_cons_zero, set_cons_succ]
    refine takeN (i := 8) (oi := q9w8) rfl ?_
    try simp only [q9w8, Act.put, setIfInBounds_toArray, set_cons_zero, set_cons_succ]
    refine takeY (i := 9) (oi := q9w9) (v := ?va09) rfl ?ha09 ?ra09
    case ha09 => (intro w hSw; (try dsimp only [q9w9] at hSw ⊢); go_simp; try with_reducible rfl)
    try simp only [q9w9, Act.put, setIfInBounds_toArray, set_cons_zero, set_cons_succ]
    refine takeY (i := 10) (oi := q9w10) (v := ?va010) rfl ?ha010 ?ra010
    case ha010 => (intro w hSw; (try dsimp only [q9w10] at hSw ⊢); go_simp; try with_reducible rfl)
    try simp only [q9w10, Act.put, setIfInBounds_toArray, set_cons_zero, set_cons_succ]
    refine wpAnyH_ready (rs := [11]) (by kernel_rfl) (by simp) ?_
    refine AllReadyH.cons (o := q9w11) rfl (fun K hK => ?_) AllReadyH.nil
    dsimp only [q9w11] at hK ⊢
    go_simp
    (skip)
    try (go_wp2_with fail)
    refine hK.out _ _ ?_ (fun hH2 => ?_)
    · (try dsimp only)
      (go_keep; all_goals (refine ⟨?_, ?_, ?_, ?_, ?_, ?_, ?_, ?_⟩ <;> (rw [World.cell?_setCell_other _ _ _ _ (by simp)]; assumption)))
    clear hK K hH1
    try simp only [q9w11, Act.put, setIfInBounds_toArray, set_cons_zero, set_cons_succ]
    refine wpAnyH_done (by kernel_rfl) ?_ _
    obtain ⟨W6, hW6⟩ : ∃ W6, W6 = (W5.setCell ⟨fb, 7, none⟩ (.bool false)).drew := ⟨_, rfl⟩
    have HW6 : Hid (W6 = (W5.setCell ⟨fb, 7, none⟩ (.bool false)).drew) := hW6
    have F6 : Hid (BoxV W6 fb [.int .i64 yid, .int .i64 ypa, .string ysc, .string yho, .int .i64 ypo, .string ypt, .bool ysb, .bool (false), .int .i64 ytc]) := by show BoxV _ _ _; rw [hW6]; exact (F5.out.set 7 (by simp) _).drew
    have U6 : Hid (BoxV W6 (fb + 1) [.string sc, .string ho, .int .i64 po, .string pt]) := by show BoxV _ _ _; rw [hW6]; exact (U5.out.set_other (by omega)).drew
    have R6 : Hid (BoxV W6 (fb + 2) [.int .i64 0, .int .i64 0, .string ⟨#[]⟩, .string ⟨#[]⟩, .int .i64 0, .string ⟨#[]⟩, .bool false, .bool false, .int .i64 0]) := by show BoxV _ _ _; rw [hW6]; exact (R5.out.set_other (by omega)).drew
    have B6 : Hid (Below fb w W6) := by show Below _ _ _; rw [hW6]; exact (B5.out.setCell (p := ⟨fb, 7, none⟩) (Nat.le_refl _) _).drew
    rw [← HW6.out]
    clear HW6 hW6 F5 U5 R5 B5 f0 f1 f2 f3 f4 f5 f6 f7 f8 u0 u1 u2 u3 ff7
    have u0 : W6.cell? ⟨fb + 1, 0, none⟩ = some (.string sc) := U6.out.at (i := 0) rfl
    have u1 : W6.cell? ⟨fb + 1, 1, none⟩ = some (.string ho) := U6.out.at (i := 1) rfl
    have u2 : W6.cell? ⟨fb + 1, 2, none⟩ = some (.int .i64 po) := U6.out.at (i := 2) rfl
    have u3 : W6.cell? ⟨fb + 1, 3, none⟩ = some (.string pt) := U6.out.at (i := 3) rfl
    go_wp2_with fail
    refine (KC.out _).mono ?_
    rintro e w9 ⟨rfl, hb9⟩
    have F9 : Hid (BoxV w9 fb [.int .i64 yid, .int .i64 ypa, .string ysc, .string yho, .int .i64 ypo, .string ypt, .bool ysb, .bool (false), .int .i64 ytc]) := F6.out.below hb9
    have R9 : Hid (BoxV w9 (fb + 2) [.int .i64 0, .int .i64 0, .string ⟨#[]⟩, .string ⟨#[]⟩, .int .i64 0, .string ⟨#[]⟩, .bool false, .bool false, .int .i64 0]) := R6.out.below hb9
    have B9 : Hid (Below fb w w9) := B6.out.trans (hb9.mono (by have := F6.out.1; omega))
    clear hb9 F6 U6 R6 B6 u0 u1 u2 u3
    have f0 : w9.cell? ⟨fb, 0, none⟩ = some (.int .i64 yid) := F9.out.at (i := 0) rfl
    have f1 : w9.cell? ⟨fb, 1, none⟩ = some (.int .i64 ypa) := F9.out.at (i := 1) rfl
    have f2 : w9.cell? ⟨fb, 2, none⟩ = some (.string ysc) := F9.out.at (i := 2) rfl
    have f3 : w9.cell? ⟨fb, 3, none⟩ = some (.string yho) := F9.out.at (i := 3) rfl
    have f4 : w9.cell? ⟨fb, 4, none⟩ = some (.int .i64 ypo) := F9.out.at (i := 4) rfl
    have f5 : w9.cell? ⟨fb, 5, none⟩ = some (.string ypt) := F9.out.at (i := 5) rfl
    have f6 : w9.cell? ⟨fb, 6, none⟩ = some (.bool ysb) := F9.out.at (i := 6) rfl
    have f7 : w9.cell? ⟨fb, 7, none⟩ = some (.bool (false)) := F9.out.at (i := 7) rfl
    have f8 : w9.cell? ⟨fb, 8, none⟩ = some (.int .i64 ytc) := F9.out.at (i := 8) rfl
    have fz0 : w9.frozen? ⟨fb, 0, none⟩ = false := F9.out.free (i := 0) rfl
    have fz1 : w9.frozen? ⟨fb, 1, none⟩ = false := F9.out.free (i := 1) rfl
    have fz2 : w9.frozen? ⟨fb, 2, none⟩ = false := F9.out.free (i := 2) rfl
    have fz3 : w9.frozen? ⟨fb, 3, none⟩ = false := F9.out.free (i := 3) rfl
    have fz4 : w9.frozen? ⟨fb, 4, none⟩ = false := F9.out.free (i := 4) rfl
    have fz5 : w9.frozen? ⟨fb, 5, none⟩ = false := F9.out.free (i := 5) rfl
    have fz6 : w9.frozen? ⟨fb, 6, none⟩ = false := F9.out.free (i := 6) rfl
    have fz7 : w9.frozen? ⟨fb, 7, none⟩ = false := F9.out.free (i := 7) rfl
    have fz8 : w9.frozen? ⟨fb, 8, none⟩ = false := F9.out.free (i := 8) rfl
    have r0 : w9.cell? ⟨fb + 2, 0, none⟩ = some (.int .i64 0) := R9.out.at (i := 0) rfl
    have r1 : w9.cell? ⟨fb + 2, 1, none⟩ = some (.int .i64 0) := R9.out.at (i := 1) rfl
    have r2 : w9.cell? ⟨fb + 2, 2, none⟩ = some (.string ⟨#[]⟩) := R9.out.at (i := 2) rfl
    have r3 : w9.cell? ⟨fb + 2, 3, none⟩ = some (.string ⟨#[]⟩) := R9.out.at (i := 3) rfl
    have r4 : w9.cell? ⟨fb + 2, 4, none⟩ = some (.int .i64 0) := R9.out.at (i := 4) rfl
    have r5 : w9.cell? ⟨fb + 2, 5, none⟩ = some (.string ⟨#[]⟩) := R9.out.at (i := 5) rfl
    have r6 : w9.cell? ⟨fb + 2, 6, none⟩ = some (.bool false) := R9.out.at (i := 6) rfl
    have r7 : w9.cell? ⟨fb + 2, 7, none⟩ = some (.bool false) := R9.out.at (i := 7) rfl
    have r8 : w9.cell? ⟨fb + 2, 8, none⟩ = some (.int .i64 0) := R9.out.at (i := 8) rfl
    have rz0 : w9.frozen? ⟨fb + 2, 0, none⟩ = false := R9.out.free (i := 0) rfl
    have rz1 : w9.frozen? ⟨fb + 2, 1, none⟩ = false := R9.out.free (i := 1) rfl
    have rz2 : w9.frozen? ⟨fb + 2, 2, none⟩ = false := R9.out.free (i := 2) rfl
    have rz3 : w9.frozen? ⟨fb + 2, 3, none⟩ = false := R9.out.free (i := 3) rfl
    have rz4 : w9.frozen? ⟨fb + 2, 4, none⟩ = false := R9.out.free (i := 4) rfl
    have rz5 : w9.frozen? ⟨fb + 2, 5, none⟩ = false := R9.out.free (i := 5) rfl
    have rz6 : w9.frozen? ⟨fb + 2, 6, none⟩ = false := R9.out.free (i := 6) rfl
    have rz7 : w9.frozen? ⟨fb + 2, 7, none⟩ = false := R9.out.free (i := 7) rfl
    have rz8 : w9.frozen? ⟨fb + 2, 8, none⟩ = false := R9.out.free (i := 8) rfl
    go_wp2
    refine bodyPost_ret (v := .agg #[.int .i64 yid, .int .i64 ypa, .string sc, .string ho, .int .i64 po, .string pt, .bool ysb, .bool (false), .int .i64 0]) (by simp [results, Tryd.results36, go_sem, r0, r1, r2, r3, r4, r5, r6, r7, r8]) rfl ⟨?_, by rw [hfb]; exact (Below.setCell (Below.setCell (Below.setCell (Below.setCell (Below.setCell (Below.setCell (Below.setCell (Below.setCell (Below.setCell (Below.setCell (Below.setCell (Below.setCell (Below.setCell (Below.setCell B9.out (Nat.le_refl _) _) (Nat.le_refl _) _) (Nat.le_refl _) _) (Nat.le_refl _) _) (Nat.le_refl _) _) (show fb ≤ fb + 2 from by omega) _) (show fb ≤ fb + 2 from by omega) _) (show fb ≤ fb + 2 from by omega) _) (show fb ≤ fb + 2 from by omega) _) (show fb ≤ fb + 2 from by omega) _) (show fb ≤ fb + 2 from by omega) _) (show fb ≤ fb + 2 from by omega) _) (show fb ≤ fb + 2 from by omega) _) (show fb ≤ fb + 2 from by omega) _)⟩
    rfl
  | true =>
    have KY : Hid (∀ W, Below W5.heap.size W5 W → Calls Tryd.prog 61 #[.agg #[.string ysc, .string yho, .int .i64 ypo, .string ypt]] W fun e w' => e = .returned (.agg #[.string ysc, .string yho, .int .i64 ypo, .int .i64 0]) ∧ Below W.heap.size W w') := KY1
    generalize hRR : sameF ysc yho ypo 0 sc ho po 0 = R at *
    have KS : Hid (∀ W, Below W5.heap.size W5 W → Calls Tryd.prog 60 #[.agg #[.string ysc, .string yho, .int .i64 ypo, .int .i64 0], .agg #[.string sc, .string ho, .int .i64 po, .int .i64 0]] W fun e w' => e = .returned (.bool R) ∧ Below W.heap.size W w') := KS1
    have HRR : Hid (sameF ysc yho ypo 0 sc ho po 0 = R) := hRR
    clear hRR KY1 KS1
    refine wp_region_held_drew (S := (fun w' => w'.cell? ⟨fb, 0, none⟩ = some (.int .i64 yid) ∧ w'.cell? ⟨fb, 1, none⟩ = some (.int .i64 ypa) ∧ w'.cell? ⟨fb, 2, none⟩ = some (.string ysc) ∧ w'.cell? ⟨fb, 3, none⟩ = some (.string yho) ∧ w'.cell? ⟨fb, 4, none⟩ = some (.int .i64 ypo) ∧ w'.cell? ⟨fb, 5, none⟩ = some (.string ypt) ∧ w'.cell? ⟨fb, 6, none⟩ = some (.bool ysb) ∧ w'.cell? ⟨fb, 8, none⟩ = some (.int .i64 ytc) ∧ w'.cell? ⟨fb + 1, 0, none⟩ = some (.string sc) ∧ w'.cell? ⟨fb + 1, 1, none⟩ = some (.string ho) ∧ w'.cell? ⟨fb + 1, 2, none⟩ = some (.int .i64 po) ∧ w'.cell? ⟨fb + 1, 3, none⟩ = some (.string pt))) (by kernel_rfl) ?_ (fun hH0 => ?_)
    · (try dsimp only)
      go_keep
    refine takeY (i := 0) (oi := q9w0) (v := ?vb00) rfl ?hb00 ?rb00
    case hb00 => (intro w hSw; (try dsimp only [q9w0] at hSw ⊢); go_simp; try with_reducible rfl)
    try simp only [q9w0, Act.put, setIfInBounds_toArray, set_cons_zero, set_cons_succ]
    refine wpAnyH_ready (rs := [1]) (by kernel_rfl) (by simp) ?_
    refine AllReadyH.cons (o := q9w1) rfl (fun K hK => ?_) AllReadyH.nil
    dsimp only [q9w1] at hK ⊢
    go_simp
    (skip)
    try (go_wp2_with fail)
    refine hK.out _ _ ?_ (fun hH1 => ?_)
    · (try dsimp only)
      (go_keep; all_goals (refine ⟨?_, ?_, ?_, ?_, ?_, ?_, ?_, ?_⟩ <;> (rw [World.cell?_setCell_other _ _ _ _ (by simp)]; assumption)))
    clear hK K hH0
    try simp only [q9w1, Act.put, setIfInBounds_toArray, set_cons_zero, set_cons_succ]
    refine takeY (i := 2) (oi := q9w2) (v := ?vb02) rfl ?hb02 ?rb02
    case hb02 => (intro w hSw; (try dsimp only [q9w2] at hSw ⊢); go_simp; try with_reducible rfl)
    try simp only [q9w2, Act.put, setIfInBounds_toArray, set_cons_zero, set_cons_succ]
    refine takeY (i := 3) (oi := q9w3) (v := ?vb03) rfl ?hb03 ?rb03
    case hb03 => (intro w hSw; (try dsimp only [q9w3] at hSw ⊢); go_simp; try with_reducible rfl)
    try simp only [q9w3, Act.put, setIfInBounds_toArray, set_cons_zero, set_cons_succ]
    refine takeY (i := 4) (oi := q9w4) (v := ?vb04) rfl ?hb04 ?rb04
    case hb04 => (intro w hSw; (try dsimp only [q9w4] at hSw ⊢); go_simp; try with_reducible rfl)
    try simp only [q9w4, Act.put, setIfInBounds_toArray, set_cons_zero, set_cons_succ]
    refine takeY (i := 6) (oi := q9w6) (v := ?vb06) rfl ?hb06 ?rb06
    case hb06 => (intro w hSw; (try dsimp only [q9w6] at hSw ⊢); go_simp; try with_reducible rfl)
    try simp only [q9w6, Act.put, setIfInBounds_toArray, set_cons_zero, set_cons_succ]
    refine wpAnyH_ready (rs := [5]) (by kernel_rfl) (by simp) ?_
    refine AllReadyH.cons (o := q9w5) rfl (fun K hK => ?_) AllReadyH.nil
    dsimp only [q9w5] at hK ⊢
    go_simp
    (go_at_call 61; refine (KY.out _ (Below.drew (Below.refl _ _))).mono ?_; rintro e w5 ⟨rfl, hb5⟩; have A5 : Below W5.heap.size W5 w5 := (Below.drew (Below.refl _ _)).trans hb5; have pf0 : w5.cell? ⟨fb, 0, none⟩ = some (.int .i64 yid) := ((bcell A5).1 _ _ hfW).trans f0; have pf1 : w5.cell? ⟨fb, 1, none⟩ = some (.int .i64 ypa) := ((bcell A5).1 _ _ hfW).trans f1; have pf2 : w5.cell? ⟨fb, 2, none⟩ = some (.string ysc) := ((bcell A5).1 _ _ hfW).trans f2; have pf3 : w5.cell? ⟨fb, 3, none⟩ = some (.string yho) := ((bcell A5).1 _ _ hfW).trans f3; have pf4 : w5.cell? ⟨fb, 4, none⟩ = some (.int .i64 ypo) := ((bcell A5).1 _ _ hfW).trans f4; have pf5 : w5.cell? ⟨fb, 5, none⟩ = some (.string ypt) := ((bcell A5).1 _ _ hfW).trans f5; have pf6 : w5.cell? ⟨fb, 6, none⟩ = some (.bool ysb) := ((bcell A5).1 _ _ hfW).trans f6; have pf7 : w5.cell? ⟨fb, 7, none⟩ = some (.bool true) := ((bcell A5).1 _ _ hfW).trans f7; have pf8 : w5.cell? ⟨fb, 8, none⟩ = some (.int .i64 ytc) := ((bcell A5).1 _ _ hfW).trans f8; have pu0 : w5.cell? ⟨fb + 1, 0, none⟩ = some (.string sc) := ((bcell A5).1 _ _ huW).trans u0; have pu1 : w5.cell? ⟨fb + 1, 1, none⟩ = some (.string ho) := ((bcell A5).1 _ _ huW).trans u1; have pu2 : w5.cell? ⟨fb + 1, 2, none⟩ = some (.int .i64 po) := ((bcell A5).1 _ _ huW).trans u2; have pu3 : w5.cell? ⟨fb + 1, 3, none⟩ = some (.string pt) := ((bcell A5).1 _ _ huW).trans u3)
    try (go_wp2_with fail)
    refine hK.out _ _ ?_ (fun hH2 => ?_)
    · (try dsimp only)
      (go_keep; all_goals (refine ⟨?_, ?_, ?_, ?_, ?_, ?_, ?_, ?_⟩ <;> (rw [World.cell?_setCell_other _ _ _ _ (by simp)]; assumption)))
    clear hK K hH1
    try simp only [q9w5, Act.put, setIfInBounds_toArray, set_cons_zero, set_cons_succ]
    refine wpAnyH_ready (rs := [7]) (by kernel_rfl) (by simp) ?_
    refine AllReadyH.cons (o := q9w7) rfl (fun K hK => ?_) AllReadyH.nil
    dsimp only [q9w7] at hK ⊢
    go_simp
    (go_at_call 61; refine (KU.out _ A5).mono ?_; rintro e w6 ⟨rfl, hb6⟩; have A6 : Below W5.heap.size W5 w6 := A5.trans (hb6.mono A5.size); have qf0 : w6.cell? ⟨fb, 0, none⟩ = some (.int .i64 yid) := ((bcell A6).1 _ _ hfW).trans f0; have qf1 : w6.cell? ⟨fb, 1, none⟩ = some (.int .i64 ypa) := ((bcell A6).1 _ _ hfW).trans f1; have qf2 : w6.cell? ⟨fb, 2, none⟩ = some (.string ysc) := ((bcell A6).1 _ _ hfW).trans f2; have qf3 : w6.cell? ⟨fb, 3, none⟩ = some (.string yho) := ((bcell A6).1 _ _ hfW).trans f3; have qf4 : w6.cell? ⟨fb, 4, none⟩ = some (.int .i64 ypo) := ((bcell A6).1 _ _ hfW).trans f4; have qf5 : w6.cell? ⟨fb, 5, none⟩ = some (.string ypt) := ((bcell A6).1 _ _ hfW).trans f5; have qf6 : w6.cell? ⟨fb, 6, none⟩ = some (.bool ysb) := ((bcell A6).1 _ _ hfW).trans f6; have qf7 : w6.cell? ⟨fb, 7, none⟩ = some (.bool true) := ((bcell A6).1 _ _ hfW).trans f7; have qf8 : w6.cell? ⟨fb, 8, none⟩ = some (.int .i64 ytc) := ((bcell A6).1 _ _ hfW).trans f8; have qu0 : w6.cell? ⟨fb + 1, 0, none⟩ = some (.string sc) := ((bcell A6).1 _ _ huW).trans u0; have qu1 : w6.cell? ⟨fb + 1, 1, none⟩ = some (.string ho) := ((bcell A6).1 _ _ huW).trans u1; have qu2 : w6.cell? ⟨fb + 1, 2, none⟩ = some (.int .i64 po) := ((bcell A6).1 _ _ huW).trans u2; have qu3 : w6.cell? ⟨fb + 1, 3, none⟩ = some (.string pt) := ((bcell A6).1 _ _ huW).trans u3)
    try (go_wp2_with fail)
    refine hK.out _ _ ?_ (fun hH3 => ?_)
    · (try dsimp only)
      (go_keep; all_goals (refine ⟨?_, ?_, ?_, ?_, ?_, ?_, ?_, ?_⟩ <;> (rw [World.cell?_setCell_other _ _ _ _ (by simp)]; assumption)))
    clear hK K hH2
    try simp only [q9w7, Act.put, setIfInBounds_toArray, set_cons_zero, set_cons_succ]
    refine wpAnyH_ready (rs := [8]) (by kernel_rfl) (by simp) ?_
    refine AllReadyH.cons (o := q9w8) rfl (fun K hK => ?_) AllReadyH.nil
    dsimp only [q9w8] at hK ⊢
    go_simp
    (go_at_call 60; refine (KS.out _ A6).mono ?_; rintro e w7 ⟨rfl, hb7⟩; have A7 : Below W5.heap.size W5 w7 := A6.trans (hb7.mono A6.size); have sf0 : w7.cell? ⟨fb, 0, none⟩ = some (.int .i64 yid) := ((bcell A7).1 _ _ hfW).trans f0; have sf1 : w7.cell? ⟨fb, 1, none⟩ = some (.int .i64 ypa) := ((bcell A7).1 _ _ hfW).trans f1; have sf2 : w7.cell? ⟨fb, 2, none⟩ = some (.string ysc) := ((bcell A7).1 _ _ hfW).trans f2; have sf3 : w7.cell? ⟨fb, 3, none⟩ = some (.string yho) := ((bcell A7).1 _ _ hfW).trans f3; have sf4 : w7.cell? ⟨fb, 4, none⟩ = some (.int .i64 ypo) := ((bcell A7).1 _ _ hfW).trans f4; have sf5 : w7.cell? ⟨fb, 5, none⟩ = some (.string ypt) := ((bcell A7).1 _ _ hfW).trans f5; have sf6 : w7.cell? ⟨fb, 6, none⟩ = some (.bool ysb) := ((bcell A7).1 _ _ hfW).trans f6; have sf7 : w7.cell? ⟨fb, 7, none⟩ = some (.bool true) := ((bcell A7).1 _ _ hfW).trans f7; have sf8 : w7.cell? ⟨fb, 8, none⟩ = some (.int .i64 ytc) := ((bcell A7).1 _ _ hfW).trans f8; have su0 : w7.cell? ⟨fb + 1, 0, none⟩ = some (.string sc) := ((bcell A7).1 _ _ huW).trans u0; have su1 : w7.cell? ⟨fb + 1, 1, none⟩ = some (.string ho) := ((bcell A7).1 _ _ huW).trans u1; have su2 : w7.cell? ⟨fb + 1, 2, none⟩ = some (.int .i64 po) := ((bcell A7).1 _ _ huW).trans u2; have su3 : w7.cell? ⟨fb + 1, 3, none⟩ = some (.string pt) := ((bcell A7).1 _ _ huW).trans u3; have qff : w7.frozen? ⟨fb, 7, none⟩ = false := ((bcell A7).2 _ _ hfW).trans ff7)
    try (go_wp2_with fail)
    refine hK.out _ _ ?_ (fun hH4 => ?_)
    · (try dsimp only)
      (go_keep; all_goals (refine ⟨?_, ?_, ?_, ?_, ?_, ?_, ?_, ?_⟩ <;> (rw [World.cell?_setCell_other _ _ _ _ (by simp)]; assumption)))
    clear hK K hH3
    try simp only [q9w8, Act.put, setIfInBounds_toArray, set_cons_zero, set_cons_succ]
    refine takeY (i := 9) (oi := q9w9) (v := ?vb09) rfl ?hb09 ?rb09
    case hb09 => (intro w hSw; (try dsimp only [q9w9] at hSw ⊢); go_simp; try with_reducible rfl)
    try simp only [q9w9, Act.put, setIfInBounds_toArray, set_cons_zero, set_cons_succ]
    refine takeY (i := 10) (oi := q9w10) (v := ?vb010) rfl ?hb010 ?rb010
    case hb010 => (intro w hSw; (try dsimp only [q9w10] at hSw ⊢); go_simp; try with_reducible rfl)
    try simp only [q9w10, Act.put, setIfInBounds_toArray, set_cons_zero, set_cons_succ]
    refine wpAnyH_ready (rs := [11]) (by kernel_rfl) (by simp) ?_
    refine AllReadyH.cons (o := q9w11) rfl (fun K hK => ?_) AllReadyH.nil
    dsimp only [q9w11] at hK ⊢
    go_simp
    (skip)
    try (go_wp2_with fail)
    refine hK.out _ _ ?_ (fun hH5 => ?_)
    · (try dsimp only)
      (go_keep; all_goals (refine ⟨?_, ?_, ?_, ?_, ?_, ?_, ?_, ?_⟩ <;> (rw [World.cell?_setCell_other _ _ _ _ (by simp)]; assumption)))
    clear hK K hH4
    try simp only [q9w11, Act.put, setIfInBounds_toArray, set_cons_zero, set_cons_succ]
    refine wpAnyH_done (by kernel_rfl) ?_ _
    obtain ⟨W6, hW6⟩ : ∃ W6, W6 = w7.setCell ⟨fb, 7, none⟩ (.bool R) := ⟨_, rfl⟩
    have HW6 : Hid (W6 = w7.setCell ⟨fb, 7, none⟩ (.bool R)) := hW6
    have F6 : Hid (BoxV W6 fb [.int .i64 yid, .int .i64 ypa, .string ysc, .string yho, .int .i64 ypo, .string ypt, .bool ysb, .bool (R), .int .i64 ytc]) := by show BoxV _ _ _; rw [hW6]; exact (F5.out.below A7).set 7 (by simp) _
    have U6 : Hid (BoxV W6 (fb + 1) [.string sc, .string ho, .int .i64 po, .string pt]) := by show BoxV _ _ _; rw [hW6]; exact (U5.out.below A7).set_other (by omega)
    have R6 : Hid (BoxV W6 (fb + 2) [.int .i64 0, .int .i64 0, .string ⟨#[]⟩, .string ⟨#[]⟩, .int .i64 0, .string ⟨#[]⟩, .bool false, .bool false, .int .i64 0]) := by show BoxV _ _ _; rw [hW6]; exact (R5.out.below A7).set_other (by omega)
    have B6 : Hid (Below fb w W6) := by show Below _ _ _; rw [hW6]; exact (B5.out.trans (A7.mono (by omega))).setCell (p := ⟨fb, 7, none⟩) (Nat.le_refl _) _
    rw [← HW6.out]
    clear HW6 hW6 F5 U5 R5 B5 f0 f1 f2 f3 f4 f5 f6 f7 f8 u0 u1 u2 u3 ff7
    have u0 : W6.cell? ⟨fb + 1, 0, none⟩ = some (.string sc) := U6.out.at (i := 0) rfl
    have u1 : W6.cell? ⟨fb + 1, 1, none⟩ = some (.string ho) := U6.out.at (i := 1) rfl
    have u2 : W6.cell? ⟨fb + 1, 2, none⟩ = some (.int .i64 po) := U6.out.at (i := 2) rfl
    have u3 : W6.cell? ⟨fb + 1, 3, none⟩ = some (.string pt) := U6.out.at (i := 3) rfl
    go_wp2_with fail
    refine (KC.out _).mono ?_
    rintro e w9 ⟨rfl, hb9⟩
    have F9 : Hid (BoxV w9 fb [.int .i64 yid, .int .i64 ypa, .string ysc, .string yho, .int .i64 ypo, .string ypt, .bool ysb, .bool (R), .int .i64 ytc]) := F6.out.below hb9
    have R9 : Hid (BoxV w9 (fb + 2) [.int .i64 0, .int .i64 0, .string ⟨#[]⟩, .string ⟨#[]⟩, .int .i64 0, .string ⟨#[]⟩, .bool false, .bool false, .int .i64 0]) := R6.out.below hb9
    have B9 : Hid (Below fb w w9) := B6.out.trans (hb9.mono (by have := F6.out.1; omega))
    clear hb9 F6 U6 R6 B6 u0 u1 u2 u3
    have f0 : w9.cell? ⟨fb, 0, none⟩ = some (.int .i64 yid) := F9.out.at (i := 0) rfl
    have f1 : w9.cell? ⟨fb, 1, none⟩ = some (.int .i64 ypa) := F9.out.at (i := 1) rfl
    have f2 : w9.cell? ⟨fb, 2, none⟩ = some (.string ysc) := F9.out.at (i := 2) rfl
    have f3 : w9.cell? ⟨fb, 3, none⟩ = some (.string yho) := F9.out.at (i := 3) rfl
    have f4 : w9.cell? ⟨fb, 4, none⟩ = some (.int .i64 ypo) := F9.out.at (i := 4) rfl
    have f5 : w9.cell? ⟨fb, 5, none⟩ = some (.string ypt) := F9.out.at (i := 5) rfl
    have f6 : w9.cell? ⟨fb, 6, none⟩ = some (.bool ysb) := F9.out.at (i := 6) rfl
    have f7 : w9.cell? ⟨fb, 7, none⟩ = some (.bool (R)) := F9.out.at (i := 7) rfl
    have f8 : w9.cell? ⟨fb, 8, none⟩ = some (.int .i64 ytc) := F9.out.at (i := 8) rfl
    have fz0 : w9.frozen? ⟨fb, 0, none⟩ = false := F9.out.free (i := 0) rfl
    have fz1 : w9.frozen? ⟨fb, 1, none⟩ = false := F9.out.free (i := 1) rfl
    have fz2 : w9.frozen? ⟨fb, 2, none⟩ = false := F9.out.free (i := 2) rfl
    have fz3 : w9.frozen? ⟨fb, 3, none⟩ = false := F9.out.free (i := 3) rfl
    have fz4 : w9.frozen? ⟨fb, 4, none⟩ = false := F9.out.free (i := 4) rfl
    have fz5 : w9.frozen? ⟨fb, 5, none⟩ = false := F9.out.free (i := 5) rfl
    have fz6 : w9.frozen? ⟨fb, 6, none⟩ = false := F9.out.free (i := 6) rfl
    have fz7 : w9.frozen? ⟨fb, 7, none⟩ = false := F9.out.free (i := 7) rfl
    have fz8 : w9.frozen? ⟨fb, 8, none⟩ = false := F9.out.free (i := 8) rfl
    have r0 : w9.cell? ⟨fb + 2, 0, none⟩ = some (.int .i64 0) := R9.out.at (i := 0) rfl
    have r1 : w9.cell? ⟨fb + 2, 1, none⟩ = some (.int .i64 0) := R9.out.at (i := 1) rfl
    have r2 : w9.cell? ⟨fb + 2, 2, none⟩ = some (.string ⟨#[]⟩) := R9.out.at (i := 2) rfl
    have r3 : w9.cell? ⟨fb + 2, 3, none⟩ = some (.string ⟨#[]⟩) := R9.out.at (i := 3) rfl
    have r4 : w9.cell? ⟨fb + 2, 4, none⟩ = some (.int .i64 0) := R9.out.at (i := 4) rfl
    have r5 : w9.cell? ⟨fb + 2, 5, none⟩ = some (.string ⟨#[]⟩) := R9.out.at (i := 5) rfl
    have r6 : w9.cell? ⟨fb + 2, 6, none⟩ = some (.bool false) := R9.out.at (i := 6) rfl
    have r7 : w9.cell? ⟨fb + 2, 7, none⟩ = some (.bool false) := R9.out.at (i := 7) rfl
    have r8 : w9.cell? ⟨fb + 2, 8, none⟩ = some (.int .i64 0) := R9.out.at (i := 8) rfl
    have rz0 : w9.frozen? ⟨fb + 2, 0, none⟩ = false := R9.out.free (i := 0) rfl
    have rz1 : w9.frozen? ⟨fb + 2, 1, none⟩ = false := R9.out.free (i := 1) rfl
    have rz2 : w9.frozen? ⟨fb + 2, 2, none⟩ = false := R9.out.free (i := 2) rfl
    have rz3 : w9.frozen? ⟨fb + 2, 3, none⟩ = false := R9.out.free (i := 3) rfl
    have rz4 : w9.frozen? ⟨fb + 2, 4, none⟩ = false := R9.out.free (i := 4) rfl
    have rz5 : w9.frozen? ⟨fb + 2, 5, none⟩ = false := R9.out.free (i := 5) rfl
    have rz6 : w9.frozen? ⟨fb + 2, 6, none⟩ = false := R9.out.free (i := 6) rfl
    have rz7 : w9.frozen? ⟨fb + 2, 7, none⟩ = false := R9.out.free (i := 7) rfl
    have rz8 : w9.frozen? ⟨fb + 2, 8, none⟩ = false := R9.out.free (i := 8) rfl
    go_wp2
    refine bodyPost_ret (v := .agg #[.int .i64 yid, .int .i64 ypa, .string sc, .string ho, .int .i64 po, .string pt, .bool ysb, .bool (R), .int .i64 0]) (by simp [results, Tryd.results36, go_sem, r0, r1, r2, r3, r4, r5, r6, r7, r8]) rfl ⟨?_, by rw [hfb]; exact (Below.setCell (Below.setCell (Below.setCell (Below.setCell (Below.setCell (Below.setCell (Below.setCell (Below.setCell (Below.setCell (Below.setCell (Below.setCell (Below.setCell (Below.setCell (Below.setCell B9.out (Nat.le_refl _) _) (Nat.le_refl _) _) (Nat.le_refl _) _) (Nat.le_refl _) _) (Nat.le_refl _) _) (show fb ≤ fb + 2 from by omega) _) (show fb ≤ fb + 2 from by omega) _) (show fb ≤ fb + 2 from by omega) _) (show fb ≤ fb + 2 from by omega) _) (show fb ≤ fb + 2 from by omega) _) (show fb ≤ fb + 2 from by omega) _) (show fb ≤ fb + 2 from by omega) _) (show fb ≤ fb + 2 from by omega) _) (show fb ≤ fb + 2 from by omega) _)⟩
    first | rfl | (rw [Bool.true_and, HRR.out])
end Go.Proofs.YtclpamjgglfljaaDoor
