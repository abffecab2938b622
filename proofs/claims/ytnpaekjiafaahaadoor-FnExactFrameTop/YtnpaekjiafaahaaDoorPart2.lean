/- 8 of this claim's texts, one behind the other. -/
import Derived.Test.YtnpaekjiafaahaaDoorPart1
import Derived.Laws.ResultCell
import Derived.Maps.Own
import Derived.Maps.OwnOps
import Derived.Maps.OwnSet
import Derived.Maps.Views
import Derived.Deep.RegionHeld3
import Derived.RangeFuncNested
import Derived.RangeFuncBound
import Derived.RangeFuncCalls
import Derived.RangeFuncLeaves
import Derived.Shelf.Abstract
import Derived.Shelf.RegionOpen
import Derived.WalkKit
import Derived.OwnWalkIn
import Derived.TacticsInMore
import Derived.LoopNIn
import Derived.LoopIn
import Derived.Maps.OwnIn
import Derived.Laws.AppendOwn
/- The walks of the specification's OriginRight and OriginOf. -/
namespace Go.Proofs.YtnpaekjiafaahaaDoor
open Go.RowKit

/-- an Origin, as a value -/
def originV (sc ho : ByteArray) (po no : Int) : Value := .agg #[.string sc, .string ho, .int .i64 po, .int .i64 no]
def originB (sc ho : ByteArray) (po no : Int) : Bool := if no = 0 then placeB sc ho po else (decide (1 ≤ no) && decide (no ≤ 1000000)) && sc.toList.isEmpty && ho.toList.isEmpty && (po == 0)
def originT (sc ho : ByteArray) (po no : Int) : ByteArray := if originB sc ho po no = true then (if no = 0 then placeT sc ho po else ⟨#[110, 117, 108, 108, 35]⟩ ++ decB no) else ⟨#[]⟩

set_option maxRecDepth 10000 in
set_option maxHeartbeats 400000 in
theorem specOriginOf_any (sc ho pa : ByteArray) (po : Int) (w : World) :
    Calls Tryd.prog 83 #[urlV sc ho pa po] w fun e w' => e = .returned (if urlB sc ho pa po = true then originV sc ho po 0 else originV ⟨#[]⟩ ⟨#[]⟩ 0 0) ∧ Below w.heap.size w w' := by
  have H1 := fun W => specUrlRight_any sc ho pa po W
  unfold urlV at H1 ⊢
  cases hu : urlB sc ho pa po with
  | true =>
    rw [hu] at H1
    rw [if_pos rfl]
    have G1 : Hid (∀ W, Calls Tryd.prog 41 #[.agg #[.string sc, .string ho, .int .i64 po, .string pa]] W fun e w' => e = .returned (.bool true) ∧ Below W.heap.size W w') := H1
    clear H1 hu
    go_enter Tryd.func83, Tryd.ntmps83
    go_wp2_with fail
    refine (G1.out _).mono ?_
    rintro e w1 ⟨rfl, hb⟩
    obtain ⟨hc, hf⟩ := bcell hb
    go_wp2
    refine bodyPost_ret (v := originV sc ho po 0) (by simp [originV, results, Tryd.results83, go_sem, hc]) rfl ⟨rfl, ?_⟩
    exact Below.setCell (Below.setCell (Below.setCell (Below.setCell ((((Below.refl _ _).alloc (Nat.le_refl _) _).alloc (by simp) _).trans (hb.mono (by simp; omega))) (by simp) _) (by simp) _) (by simp) _) (by simp) _
  | false =>
    rw [hu] at H1
    rw [if_neg (by simp)]
    have G1 : Hid (∀ W, Calls Tryd.prog 41 #[.agg #[.string sc, .string ho, .int .i64 po, .string pa]] W fun e w' => e = .returned (.bool false) ∧ Below W.heap.size W w') := H1
    clear H1 hu
    go_enter Tryd.func83, Tryd.ntmps83
    go_wp2_with fail
    refine (G1.out _).mono ?_
    rintro e w1 ⟨rfl, hb⟩
    obtain ⟨hc, hf⟩ := bcell hb
    go_wp2
    refine bodyPost_ret (v := originV ⟨#[]⟩ ⟨#[]⟩ 0 0) (by simp [originV, results, Tryd.results83, go_sem, hc]) rfl ⟨rfl, ?_⟩
    exact Below.setCell (Below.setCell (Below.setCell (Below.setCell ((((Below.refl _ _).alloc (Nat.le_refl _) _).alloc (by simp) _).trans (hb.mono (by simp; omega))) (by simp) _) (by simp) _) (by simp) _) (by simp) _
end Go.Proofs.YtnpaekjiafaahaaDoor

/- The origin of a frame, as a plain function. -/
namespace Go.Proofs.YtnpaekjiafaahaaDoor
open Go.RowKit

/-- an origin's fields -/
structure Og where
  sc : ByteArray
  ho : ByteArray
  po : Int
  no : Int
def ogV (o : Og) : Value := .agg #[.string o.sc, .string o.ho, .int .i64 o.po, .int .i64 o.no]
def ogNone : Og := ⟨⟨#[]⟩, ⟨#[]⟩, 0, 0⟩
/-- the origin of a url's fields -/
def ogUrl (sc ho pt : ByteArray) (po : Int) : Og := if urlB sc ho pt po = true then ⟨sc, ho, po, 0⟩ else ogNone
theorem ogUrl_V (sc ho pt : ByteArray) (po : Int) : (if urlB sc ho pt po = true then originV sc ho po 0 else originV ⟨#[]⟩ ⟨#[]⟩ 0 0) = ogV (ogUrl sc ho pt po) := by
  unfold ogUrl
  split <;> rfl
def ogF (f : Fr) : Og := if f.sb = true then ⟨⟨#[]⟩, ⟨#[]⟩, 0, f.id⟩ else ogUrl f.sc f.ho f.pt f.po
/-- the frame that the number leads to -/
def getF (L : List Fr) (id : Int) : Fr := atF L (whF L id).toNat
def hereF (L : List Fr) (id : Int) : Bool := decide (0 ≤ whF L id)
def orgF (L : List Fr) (id : Int) : Og := if (hereF L id && framesB L) = true then ogF (getF L id) else ogNone
theorem hereF_at {L : List Fr} {id : Int} (h : hereF L id = true) : (whF L id).toNat < L.length ∧ (whF L id) = ((whF L id).toNat : Int) := by
  unfold hereF at h
  rw [decide_eq_true_eq] at h
  rcases whF_cases L id with ⟨k, hk, e, -⟩ | ⟨e, -⟩
  · rw [e]; simp; exact hk
  · omega
end Go.Proofs.YtnpaekjiafaahaaDoor

/- The tree of frames: a map from Ids to frames and what they lie in, told by the list; those around a frame, from it outward. -/
namespace Go.Proofs.YtnpaekjiafaahaaDoor
open Go.RowKit Go.Maps

/-- how a branch in the map reads -/
def brV (f : Fr) (i : Int) : Value := .agg #[.int .i64 f.id, .int .i64 f.pa, .string f.sc, .string f.ho, .int .i64 f.po, .string f.pt, .bool f.sb, .bool f.fl, .int .i64 f.tc, .int .i64 i]
def brElem (v : Value) : Option (DataW (Fr × Int) × List MemPlace) :=
  match v with
  | .agg cs => (match cs.toList with
    | [.int .i64 a, .int .i64 b, .string c, .string d, .int .i64 e, .string f, .bool g, .bool h, .int .i64 i, .int .i64 j] => some (.held (⟨a, b, c, d, e, f, g, h, i⟩, j), [])
    | _ => none)
  | _ => none
theorem brElem_mk (f : Fr) (i : Int) : brElem (brV f i) = some (.held (f, i), []) := rfl
theorem brElem_inv {v : Value} {y : DataW (Fr × Int) × List MemPlace} (h : brElem v = some y) : ∃ (f : Fr) (i : Int), v = brV f i ∧ y = (.held (f, i), []) := by
  cases v
  case agg cs =>
    unfold brElem at h
    simp only at h
    split at h
    · rename_i a b c d e f g i j k e1
      refine ⟨⟨a, b, c, d, e, f, g, i, j⟩, k, ?_, (Option.some.inj h).symm⟩
      exact congrArg Value.agg (Array.toList_inj.1 e1)
    · cases h
  all_goals (unfold brElem at h; cases h)
theorem int9Keyed : Keyed Tryd.prog 2 := int_keyed Tryd.underlying2
theorem int9_wf {id : Int} (h1 : -9223372036854775808 ≤ id) (h2 : id ≤ 9223372036854775807) : (Lit.int .i64 id).wf = true := by
  have e1 : IntKind.i64.min = -9223372036854775808 := by decide
  have e2 : IntKind.i64.max = 9223372036854775807 := by decide
  simp [Lit.wf]; omega
theorem keyOf9 {id : Int} (h1 : -9223372036854775808 ≤ id) (h2 : id ≤ 9223372036854775807) : keyOf Tryd.prog 2 (.int .i64 id) = some (.int .i64 id) := keyOf_int_mk Tryd.underlying2 (int9_wf h1 h2)
theorem litInt_inj {a b : Int} (h : (Lit.int .i64 a) = Lit.int .i64 b) : a = b := by injection h
/-- Ids in their range, none twice -/
def idsF (L : List Fr) : Prop := ∀ j, j < L.length → (1 ≤ (atF L j).id ∧ (atF L j).id ≤ 1000000) ∧ ∀ i, i < j → (atF L i).id < (atF L j).id
theorem hereF_iff (L : List Fr) (id : Int) : hereF L id = true ↔ ∃ k, k < L.length ∧ (atF L k).id = id := by
  unfold hereF
  rw [decide_eq_true_iff]
  rcases whF_cases L id with ⟨k, hk, e, h, -⟩ | ⟨e, h⟩
  · rw [e]; exact ⟨fun _ => ⟨k, hk, h⟩, fun _ => by omega⟩
  · rw [e]; exact ⟨fun h' => by omega, fun ⟨k, hk, h'⟩ => absurd h' (h k hk)⟩
theorem getF_at {L : List Fr} (hi : idsF L) {k : Nat} (hk : k < L.length) : whF L (atF L k).id = (k : Int) ∧ getF L (atF L k).id = atF L k := by
  have e : whF L (atF L k).id = (k : Int) := whF_is hk rfl (fun j hj => by have := (hi k hk).2 j hj; omega)
  exact ⟨e, by unfold getF; rw [e]; rfl⟩
/-- block bm is a map of at most N branches, those of the list -/
def TreeIs (w : World) (bm N : Nat) (L : List Fr) : Prop :=
  ∃ D : DataW (Fr × Int), w.ownsMap Tryd.prog 2 brElem bm N D ∧ ∀ id : Int, (Maps.has D (.int .i64 id) = hereF L id) ∧ (hereF L id = true → ∀ zd, D.atKey (.int .i64 id) zd = .held (getF L id, (getF L id).pa))
theorem TreeIs.of_block {w w' : World} {bm N : Nat} {L : List Fr} (h : TreeIs w bm N L) (hb : w'.heap[bm]? = w.heap[bm]?) : TreeIs w' bm N L := by
  obtain ⟨D, ⟨es, clock, h0, h1⟩, h2⟩ := h
  exact ⟨D, ⟨es, clock, by rw [hb]; exact h0, h1⟩, h2⟩
theorem TreeIs.lt {w : World} {bm N : Nat} {L : List Fr} (h : TreeIs w bm N L) : bm < w.heap.size := by
  obtain ⟨D, h1, _⟩ := h; exact h1.lt
theorem TreeIs.below {w w' : World} {bm N : Nat} {L : List Fr} (h : TreeIs w bm N L) (hb : Below w.heap.size w w') : TreeIs w' bm N L := h.of_block (hb.block bm h.lt)
theorem TreeIs.mono {w : World} {bm N N' : Nat} {L : List Fr} (h : TreeIs w bm N L) (hN : N ≤ N') : TreeIs w bm N' L := by
  obtain ⟨D, h1, h2⟩ := h; exact ⟨D, h1.mono hN, h2⟩
theorem TreeIs.ne {w : World} {bm N b o : Nat} {v : Value} {L : List Fr} (h : TreeIs w bm N L) (hc : w.cell? ⟨b, o, none⟩ = some v) : b ≠ bm := by
  rintro rfl
  obtain ⟨D, ⟨es, clock, h0, _⟩, _⟩ := h
  simp [World.cell?, h0] at hc
theorem tree_made (w : World) : TreeIs (w.alloc (.map #[] 0)) w.heap.size 0 [] :=
  ⟨.map [], World.ownsMap_made w _ _ _, fun id => ⟨by rfl, fun h => by cases h⟩⟩
theorem take_ids {L : List Fr} (h : idsF L) (k : Nat) : idsF (L.take k) := by
  intro j hj
  have hj1 : j < L.length := by rw [List.length_take] at hj; omega
  have hjk : j < k := by rw [List.length_take] at hj; omega
  obtain ⟨h1, h2⟩ := h j hj1
  have e : ∀ i, i ≤ j → atF (L.take k) i = atF L i := fun i hi => by
    rw [atF_get (by rw [List.length_take]; omega), atF_get (by omega), List.getElem_take]
  rw [e j (Nat.le_refl _)]
  exact ⟨h1, fun i hi => by rw [e i (Nat.le_of_lt hi)]; exact h2 i hi⟩
theorem take_here {L : List Fr} {k : Nat} (hk : k ≤ L.length) (id : Int) : hereF (L.take k) id = true ↔ ∃ j, j < k ∧ (atF L j).id = id := by
  rw [hereF_iff]
  constructor
  · rintro ⟨j, hj, e⟩
    rw [List.length_take] at hj
    exact ⟨j, by omega, by rw [← e, atF_take hk (by omega)]⟩
  · rintro ⟨j, hj, e⟩
    exact ⟨j, by rw [List.length_take]; omega, by rw [atF_take hk hj]; exact e⟩
theorem take_get {L : List Fr} (hi : idsF L) {k j : Nat} (hk : k ≤ L.length) (hj : j < k) : getF (L.take k) (atF L j).id = atF L j := by
  have h := (getF_at (take_ids hi k) (k := j) (by rw [List.length_take]; omega)).2
  rw [atF_take hk hj] at h
  exact h
theorem tree_put {w' : World} {bm N : Nat} {L : List Fr} {D : DataW (Fr × Int)} {k : Nat} (hi : idsF L) (hk : k < L.length) (hD : IsMap D)
    (h2 : ∀ id : Int, (Maps.has D (.int .i64 id) = hereF (L.take k) id) ∧ (hereF (L.take k) id = true → ∀ zd, D.atKey (.int .i64 id) zd = .held (getF (L.take k) id, (getF (L.take k) id).pa)))
    (h1 : w'.ownsMap Tryd.prog 2 brElem bm N (D.put (.int .i64 (atF L k).id) (.held (atF L k, (atF L k).pa)))) : TreeIs w' bm N (L.take (k + 1)) := by
  refine ⟨_, h1, fun id => ?_⟩
  by_cases e : id = (atF L k).id
  · subst e
    have hh : hereF (L.take (k + 1)) (atF L k).id = true := (take_here (by omega) _).2 ⟨k, by omega, rfl⟩
    refine ⟨by rw [has_put_same hD (by trivial), hh], fun _ zd => ?_⟩
    rw [atKey_put_same hD (by trivial), take_get hi (by omega) (by omega)]
  · have hne : (Lit.int .i64 id) ≠ Lit.int .i64 (atF L k).id := fun h => e (litInt_inj h)
    have hh : hereF (L.take (k + 1)) id = hereF (L.take k) id := by
      rw [Bool.eq_iff_iff, take_here (by omega), take_here (by omega)]
      constructor
      · rintro ⟨j, hj, e'⟩
        by_cases ej : j = k
        · subst ej; exact absurd e'.symm e
        · exact ⟨j, by omega, e'⟩
      · rintro ⟨j, hj, e'⟩; exact ⟨j, by omega, e'⟩
    refine ⟨by rw [has_put_other hne, hh]; exact (h2 id).1, fun h zd => ?_⟩
    rw [hh] at h
    rw [atKey_put_other hne, (h2 id).2 h zd]
    obtain ⟨j, hj, rfl⟩ := (take_here (by omega) id).1 h
    rw [take_get hi (by omega) hj, take_get hi (by omega) (by omega)]
/-- of right frames -/
theorem ids_of {L : List Fr} (h : framesB L = true) : idsF L := by
  obtain ⟨h10, hok⟩ := framesB_parts h
  have step : ∀ j, j < L.length → (1 ≤ (atF L j).id ∧ (atF L j).id ≤ 1000000) := fun j hj => by
    have h1 := hok j hj
    have h2 := lastF_ge (L := L) (k := j) (by omega) (fun i hi => hok i (by omega))
    have h3 := okF_time h1
    unfold okF at h1
    simp only [Bool.and_eq_true, decide_eq_true_eq] at h1
    omega
  intro j hj
  refine ⟨step j hj, ?_⟩
  induction j with
  | zero => intro i hi; omega
  | succ m ih =>
    intro i hi
    have h1 := hok (m + 1) hj
    unfold okF at h1
    rw [lastF_succ (by omega)] at h1
    simp only [Bool.and_eq_true, decide_eq_true_eq] at h1
    by_cases e : i = m
    · subst e; exact h1.1.2
    · exact Int.lt_trans (ih (by omega) i (by omega)) h1.1.2
theorem parent_ahead {L : List Fr} (h : framesB L = true) {k : Nat} (hk : k < L.length) : whF L (atF L k).pa < (k : Int) := by
  have hi := ids_of h
  have h1 := (framesB_parts h).2 k hk
  unfold okF at h1
  simp only [Bool.and_eq_true] at h1
  have h2 := h1.2
  unfold holdF at h2
  rw [Bool.or_eq_true, beq_iff_eq, decide_eq_true_eq] at h2
  rcases h2 with h2 | h2
  · rw [h2, whF_no (fun j hj => by have := (hi j hj).1.1; omega)]; omega
  · rcases whF_cases (L.take k) (atF L k).pa with ⟨j, hj, e, e1, e2⟩ | ⟨e, -⟩
    · rw [List.length_take] at hj
      rw [atF_take (by omega) (by omega)] at e1
      rw [← e1, (getF_at hi (by omega)).1]; omega
    · omega
/-- those around a frame, from it outward -/
def outF (L : List Fr) : Nat → Int → List Fr
  | 0, _ => []
  | n + 1, id => if hereF L id = true then getF L id :: outF L n (getF L id).pa else []
theorem here_wh {L : List Fr} {id : Int} (h : hereF L id = true) : ∃ k, k < L.length ∧ whF L id = (k : Int) ∧ getF L id = atF L k ∧ (atF L k).id = id := by
  unfold hereF at h
  rw [decide_eq_true_eq] at h
  rcases whF_cases L id with ⟨k, hk, e, e1, -⟩ | ⟨e, -⟩
  · exact ⟨k, hk, e, by unfold getF; rw [e]; rfl, e1⟩
  · omega
theorem parent_less {L : List Fr} (h : framesB L = true) {id : Int} (hh : hereF L id = true) : whF L (getF L id).pa < whF L id := by
  obtain ⟨k, hk, e, e1, -⟩ := here_wh hh
  rw [e, e1]; exact parent_ahead h hk
theorem outF_more {L : List Fr} (h : framesB L = true) : ∀ (n : Nat) (id : Int), whF L id < n → outF L (n + 1) id = outF L n id
  | 0, id, hn => by
    have hh : hereF L id = false := by
      have := (fstF_range (fun f => f.id == id) L).1
      unfold hereF; exact decide_eq_false (by unfold whF at hn ⊢; omega)
    unfold outF; rw [hh]; rfl
  | n + 1, id, hn => by
    unfold outF
    cases hh : hereF L id with
    | false => rfl
    | true =>
      rw [if_pos rfl, if_pos rfl, outF_more h n _ (by have := parent_less h hh; omega)]
theorem outF_len {L : List Fr} : ∀ (n : Nat) (id : Int), (outF L n id).length ≤ n
  | 0, _ => Nat.le_refl _
  | n + 1, id => by
    unfold outF
    split
    · simp only [List.length_cons]; have := outF_len (L := L) n (getF L id).pa; omega
    · simp
/-- the whole way -/
def wayF (L : List Fr) (id : Int) : List Fr := outF L (L.length + 1) id
theorem wh_len (L : List Fr) (id : Int) : whF L id < (L.length : Int) := by
  rcases whF_cases L id with ⟨k, hk, e, -⟩ | ⟨e, -⟩ <;> rw [e] <;> omega
theorem wayF_here {L : List Fr} (h : framesB L = true) {id : Int} (hh : hereF L id = true) : wayF L id = getF L id :: wayF L (getF L id).pa := by
  unfold wayF
  have e : outF L (L.length + 1) id = if hereF L id = true then getF L id :: outF L L.length (getF L id).pa else [] := rfl
  rw [e, if_pos hh, outF_more h L.length (getF L id).pa (wh_len _ _)]
theorem wayF_none {L : List Fr} {id : Int} (hh : hereF L id = false) : wayF L id = [] := by
  unfold wayF outF; rw [hh]; rfl
theorem wayF_len {L : List Fr} (id : Int) : (wayF L id).length ≤ L.length + 1 := outF_len _ _
end Go.Proofs.YtnpaekjiafaahaaDoor

/- The walk of the program's treeOf, and of the maker of the iterator. -/
namespace Go.Proofs.YtnpaekjiafaahaaDoor
open Go.RowKit Go.Maps

set_option maxRecDepth 10000 in
set_option maxHeartbeats 8000000 in
theorem treeOf_any (v : Value) (L : List Fr) (B : Nat) (w : World) (hs : SliceF w B v L) (hL : framesB L = true) :
    Calls Tryd.prog 70 #[v] w fun e w' => ∃ bm, e = .returned (.map (some bm)) ∧ w.heap.size ≤ bm ∧ TreeIs w' bm 10 L ∧ Below w.heap.size w w' := by
  have h10 := (framesB_parts hL).1
  have hid := ids_of hL
  obtain ⟨⟨p, cap, rfl, hg⟩, -⟩ := hs
  have HG : Hid (0 < L.length → ∃ g, p = some ⟨g, 0, none⟩ ∧ g < w.heap.size ∧ ∀ j, j < L.length → ∀ o, o < 9 → w.cell? ⟨g, j * 9 + o, none⟩ = some (frC (atF L j) o)) := fun h0 => by
    obtain ⟨g, e, -, hgw, hc⟩ := hg h0
    exact ⟨g, e, hgw, fun j hj o ho => (hc j hj o ho).1⟩
  have HI : Hid (idsF L) := hid
  have hmm := @run_makeMap Tryd.prog
  have M2 : Hid (TreeIs (w.alloc (.map #[] 0)) w.heap.size 0 (L.take 0)) := tree_made w
  have B2 : Hid (Below w.heap.size w (w.alloc (.map #[] 0))) := (Below.refl _ _).alloc (Nat.le_refl _) _
  clear hg hid hL
  go_enter Tryd.func70, Tryd.ntmps70
  go_wp2
  clear hmm
  generalize hbm : w.heap.size = bm at *
  go_loopw [9] (fun i wr => ∃ k : Nat, k ≤ L.length ∧ i = .int .i64 k ∧ Hid (TreeIs wr bm k (L.take k)) ∧ Hid (Below bm w wr)) (fun i _ => L.length - (intOf i).toNat)
  case atStart => exact ⟨0, Nat.zero_le _, rfl, M2, B2⟩
  case round =>
    obtain ⟨k, hk, rfl, HM, HB⟩ := hrel
    by_cases hlt : k < L.length
    · obtain ⟨g, rfl, hgw, hc⟩ := HG.out (by omega)
      have hx : ∀ o, o < 9 → wr.cell? ⟨g, k * 9 + o, none⟩ = some (frC (atF L k) o) := fun o ho => by rw [HB.out.cell (p := ⟨g, k * 9 + o, none⟩) hgw]; exact hc k hlt o ho
      have c0 : wr.cell? ⟨g, k * 9, none⟩ = some (.int .i64 (atF L k).id) := hx 0 (by omega)
      have c1 : wr.cell? ⟨g, k * 9 + 1, none⟩ = some (.int .i64 (atF L k).pa) := hx 1 (by omega)
      have c2 : wr.cell? ⟨g, k * 9 + 2, none⟩ = some (.string (atF L k).sc) := hx 2 (by omega)
      have c3 : wr.cell? ⟨g, k * 9 + 3, none⟩ = some (.string (atF L k).ho) := hx 3 (by omega)
      have c4 : wr.cell? ⟨g, k * 9 + 4, none⟩ = some (.int .i64 (atF L k).po) := hx 4 (by omega)
      have c5 : wr.cell? ⟨g, k * 9 + 5, none⟩ = some (.string (atF L k).pt) := hx 5 (by omega)
      have c6 : wr.cell? ⟨g, k * 9 + 6, none⟩ = some (.bool (atF L k).sb) := hx 6 (by omega)
      have c7 : wr.cell? ⟨g, k * 9 + 7, none⟩ = some (.bool (atF L k).fl) := hx 7 (by omega)
      have c8 : wr.cell? ⟨g, k * 9 + 8, none⟩ = some (.int .i64 (atF L k).tc) := hx 8 (by omega)
      have k0 : (0 : Int) ≤ k := by omega
      have k1 : (k : Int) < L.length := by omega
      obtain ⟨D, hown, hD⟩ := HM.out
      have hkey := keyOf9 (id := (atF L k).id) (by have := (HI.out k hlt).1; omega) (by have := (HI.out k hlt).1; omega)
      have hP : ∀ w', w'.ownsMap Tryd.prog 2 brElem bm (k + 1) (D.put (.int .i64 (atF L k).id) (.held (atF L k, (atF L k).pa))) → TreeIs w' bm (k + 1) (L.take (k + 1)) := fun w' h => tree_put HI.out hlt hown.isMap hD h
      have HP : Hid (∀ w', w'.ownsMap Tryd.prog 2 brElem bm (k + 1) (D.put (.int .i64 (atF L k).id) (.held (atF L k, (atF L k).pa))) → TreeIs w' bm (k + 1) (L.take (k + 1))) := hP
      have HO : Hid (wr.ownsMap Tryd.prog 2 brElem bm k D) := hown
      clear hc hx hD HM hown hP HG HI
      generalize atF L k = y at *
      obtain ⟨yid, ypa, ysc, yho, ypo, ypt, ysb, yfl, ytc⟩ := y
      dsimp only at *
      have hel : brElem (.agg #[.int .i64 yid, .int .i64 ypa, .string ysc, .string yho, .int .i64 ypo, .string ypt, .bool ysb, .bool yfl, .int .i64 ytc, .int .i64 ypa]) = some (.held (⟨yid, ypa, ysc, yho, ypo, ypt, ysb, yfl, ytc⟩, ypa), []) := rfl
      go_wp2_with (at_mapUpdate; go_must (refine wpList_mapUpdate_own _ rfl _ _ _ 90 rfl 2 105 int9Keyed Tryd.underlying90 _ bm k D rfl (HO.out.alloc _) (by unfold maxLen; omega) _ _ _ rfl rfl hkey _ [] hel ?_); intro w3 hown3 hg3)
      have B3 : Hid (Below bm w w3) := (HB.out.alloc (by have := HB.out.size; omega) _).grown hg3 (by have := HB.out.size; simp; omega) (fun j hj => by have := Option.some.inj hj; omega)
      have M3 : Hid (TreeIs w3 bm (k + 1) (L.take (k + 1))) := HP.out _ hown3
      clear hown3 hg3 HP HO
      go_wp2
      go_roundw
      case rel => exact ⟨k + 1, by omega, by go_num, M3, B3⟩
      case measure => simp [intOf]; omega
    · obtain rfl : k = L.length := by omega
      have M4 : Hid (TreeIs wr bm 10 L) := by
        have := HM.out
        rw [List.take_length] at this
        exact this.mono h10
      go_wp2
      go_ret
      exact ⟨bm, rfl, Nat.le_of_eq hbm, M4.out, by rw [hbm]; exact HB.out⟩
set_option maxRecDepth 10000 in
theorem outward_any (bm : Nat) (id : Int) (w : World) :
    Calls Tryd.prog 71 #[.map (some bm), .int .i64 id] w fun e w' => e = .returned (.func (.func 90) #[] #[.pointer (some ⟨w.heap.size, 0, none⟩), .pointer (some ⟨w.heap.size + 1, 0, none⟩)]) ∧ w' = (w.alloc (.cells #[.map (some bm)] 90)).alloc (.cells #[.int .i64 id] 2) := by
  go_enter Tryd.func71, Tryd.ntmps71
  go_wp2
  go_ret
  exact ⟨rfl, rfl⟩
end Go.Proofs.YtnpaekjiafaahaaDoor

/- The contract of the program's iterator: those around a frame, one by one, from it outward. Written by impltree1.py. -/
namespace Go.Proofs.YtnpaekjiafaahaaDoor
open Go.RowKit Go.Maps Go.Shelf
attribute [local go_sem] Oper.semAt_some

/-- what a round keeps: all that lay below n₁ but for one block, and all cells -/
def KpF (row : Option Nat) (n₁ : Nat) (A B : World) : Prop := A.heap.size ≤ B.heap.size ∧ ∀ (k : Nat) (o : Obj), some k ≠ row → A.heap[k]? = some o → (k < n₁ ∨ o.isCells = true) → B.heap[k]? = some o
theorem KpF.refl (row : Option Nat) (n₁ : Nat) (A : World) : KpF row n₁ A A := ⟨Nat.le_refl _, fun _ _ _ h _ => h⟩
theorem KpF.trans {row : Option Nat} {n₁ : Nat} {A B C : World} (h : KpF row n₁ A B) (k : KpF row n₁ B C) : KpF row n₁ A C :=
  ⟨Nat.le_trans h.1 k.1, fun j o hj hA hor => k.2 j o hj (h.2 j o hj hA hor) hor⟩
theorem KpF.of_below {row : Option Nat} {n₁ : Nat} {A B : World} (h : Below A.heap.size A B) : KpF row n₁ A B :=
  ⟨h.size, fun k o _ hA _ => by rw [h.block k (Array.getElem?_eq_some_iff.1 hA).1]; exact hA⟩
theorem KpF.put {row : Option Nat} {n₁ n₂ : Nat} (hn : n₁ ≤ n₂) (W : World) (l : Nat) (o o' : Obj) (hl : n₂ ≤ l) (h : W.heap[l]? = some o) (hc : o.isCells = false) (_ : o.isWalk = false) : KpF row n₁ W (W.putObj l o') :=
  ⟨by simp, fun k o2 _ h2 hor => by
    by_cases e : k = l
    · subst e
      rw [h] at h2; cases h2
      rcases hor with hor | hor
      · omega
      · rw [hc] at hor; cases hor
    · rw [World.putObj_heap_other (fun e' => e e')]; exact h2⟩
theorem KpF.cell {row : Option Nat} {n₁ : Nat} {A B : World} (h : KpF row n₁ A B) {a : Addr} {v : Value} (hv : A.cell? a = some v) (hr : some a.block ≠ row) : B.cell? a = some v := by
  obtain ⟨o, ho, hc⟩ := cells_of_cell hv
  exact (World.cell?_of_block ((h.2 _ o hr ho (.inr hc)).trans ho.symm)).trans hv
theorem KpF.tree {row : Option Nat} {n₁ : Nat} {A B : World} (h : KpF row n₁ A B) {bm N : Nat} {L : List Fr} (hm : TreeIs A bm N L) (hb : bm < n₁) (hr : some bm ≠ row) : TreeIs B bm N L :=
  hm.of_block (by
    have hlt := hm.lt
    rw [h.2 bm A.heap[bm] hr (Array.getElem?_eq_getElem hlt) (.inl hb), Array.getElem?_eq_getElem hlt])
/-- how many are left -/
def leftF (L : List Fr) (b ok : Value) (w : World) : Nat :=
  match b, ok with
  | .pointer (some a), .bool true => (match w.cell? ⟨a.block, 0, none⟩ with
    | some (.int _ id) => (whF L id).toNat + 1
    | _ => 0)
  | _, _ => 0
theorem leftF_is {L : List Fr} {bb : Nat} {w : World} {id : Int} (h : w.cell? ⟨bb, 0, none⟩ = some (.int .i64 id)) : leftF L (.pointer (some ⟨bb, 0, none⟩)) (.bool true) w = (whF L id).toNat + 1 := by
  unfold leftF; simp only [h]
theorem leftF_end (L : List Fr) (b : Value) (w : World) : leftF L b (.bool false) w = 0 := by
  cases b <;> simp [leftF]
set_option maxRecDepth 100000 in
set_option maxHeartbeats 8000000 in
theorem outward1_in (n : Nat) (hn : 1 ≤ n) (l bt bi bm n₁ : Nat) (row : Option Nat) (L : List Fr) (hL : framesB L = true) (id : Int) (i1 : -9223372036854775808 ≤ id) (i2 : id ≤ 9223372036854775807) (J Jx : List Fr → World → Prop)
    (W : World) (hJ : AbidesFrom W.heap.size J)
    (hY : ∀ pre x W1, J pre W1 → pre.length < 11 → YieldAt Fence.wide (n - 1) Tryd.prog l #[frV x] W1 fun e W' =>
      (e = .returned (.bool true) ∧ J (pre ++ [x]) W' ∧ KpF row n₁ W1 W') ∨ (e = .returned (.bool false) ∧ Jx (pre ++ [x]) W'))
    (ht : W.cell? ⟨bt, 0, none⟩ = some (.map (some bm))) (hi : W.cell? ⟨bi, 0, none⟩ = some (.int .i64 id)) (hm : TreeIs W bm 10 L) (hbm : bm < n₁) (hbt : bt < n₁) (r1 : some bm ≠ row) (r2 : some bt ≠ row) (hn₁ : n₁ ≤ W.heap.size) (hrow : ∀ r, row = some r → r < n₁) (h0 : J [] W) :
    CallsIn Fence.wide n Tryd.prog 90 #[.func (.yield l) #[] #[], .pointer (some ⟨bt, 0, none⟩), .pointer (some ⟨bi, 0, none⟩)] W fun e W' => (∃ v, e = .returned v) ∧
      ((∃ ys, ys = wayF L id ∧ J ys W') ∨ (∃ pre, pre <+: wayF L id ∧ Jx pre W')) := by
  obtain ⟨D, hown, hD⟩ := hm
  have HX : Hid (∀ x i, D.atKey (.int .i64 id) (.held (frNone, 0)) = .held (x, i) → hereF L id = true → x = getF L id ∧ i = (getF L id).pa) := fun x i h1 h2 => by
    rw [(hD id).2 h2] at h1
    injection h1 with h1
    injection h1 with h1 h3
    exact ⟨h1.symm, h3.symm⟩
  have HH : Hid (Maps.has D (.int .i64 id) = hereF L id) := (hD id).1
  have HO : Hid (W.ownsMap Tryd.prog 2 brElem bm 10 D) := hown
  have HM : Hid (TreeIs W bm 10 L) := ⟨D, hown, hD⟩
  have hkey := keyOf9 (id := id) i1 i2
  have HT : Hid (W.cell? ⟨bt, 0, none⟩ = some (.map (some bm))) := ht
  have HJ : Hid (∀ s A o, W.heap.size ≤ A.heap.size → J s A → J s (A.alloc o)) := fun s A o _ h => hJ s A _ none h (World.grownBy_alloc A o none) (fun r e => by cases e)
  have hlen : L.length ≤ 10 := (framesB_parts hL).1
  have HL : Hid (framesB L = true) := hL
  have HJ0 : Hid (J [] W) := h0
  have HY : Hid (∀ pre x W1, J pre W1 → pre.length < 11 → YieldAt Fence.wide (n - 1) Tryd.prog l #[frV x] W1 fun e W' => (e = .returned (.bool true) ∧ J (pre ++ [x]) W' ∧ KpF row n₁ W1 W') ∨ (e = .returned (.bool false) ∧ Jx (pre ++ [x]) W')) := hY
  have HR : Hid ((some bm ≠ row ∧ some bt ≠ row) ∧ ∀ r, row = some r → r < n₁) := ⟨⟨r1, r2⟩, hrow⟩
  have HID : Hid (idsF L) := ids_of hL
  clear hown hD hY h0 hJ hL r1 r2 hrow
  refine callsIn_of_wp Tryd.func90 rfl trivial ?_ rfl
  simp only [Tryd.ntmps90, List.size_toArray, List.length_cons, List.length_nil, Nat.reduceAdd, Nat.reduceSub, Array.replicate_succ, Array.replicate_zero, List.push_toArray, List.append_toArray, List.nil_append, List.cons_append]
  gi_wp2_with (gi_at_lookup; refine wpListIn_lookup_own_ok _ rfl _ _ 90 rfl 2 105 int9Keyed Tryd.underlying90 brElem (Tryd.zeroValue105 _) (.held (frNone, 0)) [] rfl bm 10 D rfl HO.out _ _ rfl hkey ?_; intro v ps hv; obtain ⟨x, i, rfl, hc⟩ := brElem_inv hv; have hx := HX.out x i (congrArg Prod.fst hc); have HXX : Hid (hereF L id = true → x = getF L id ∧ i = (getF L id).pa) := hx; clear hc hv hx; obtain ⟨xid, xpa, xsc, xho, xpo, xpt, xsb, xfl, xtc⟩ := x; unfold brV; dsimp only; rw [HH.out])
  clear HX HH HO ht
  gi_loopw [4, 5] (fun b ok wr => ∃ (bb : Nat) (cid : Int) (pre : List Fr) (x : Fr) (i : Int), b = .pointer (some ⟨bb, 0, none⟩) ∧ ok = .bool (hereF L cid) ∧ Hid (n₁ ≤ bb) ∧
      Hid (∀ o v, [.int .i64 (x).id, .int .i64 (x).pa, .string (x).sc, .string (x).ho, .int .i64 (x).po, .string (x).pt, .bool (x).sb, .bool (x).fl, .int .i64 (x).tc, .int .i64 i][o]? = some v → wr.cell? ⟨bb, o, none⟩ = some v) ∧ Hid (hereF L cid = true → x = getF L cid ∧ i = (getF L cid).pa) ∧ Hid (wayF L id = pre ++ wayF L cid) ∧ Hid (J pre wr) ∧ Hid (KpF row n₁ W wr))
    (fun b ok wr => leftF L b ok wr)
  case atStart =>
    exact ⟨W.heap.size, id, [], ⟨xid, xpa, xsc, xho, xpo, xpt, xsb, xfl, xtc⟩, i, rfl, rfl, hn₁, fun o v h => by rw [World.cell?_alloc_new]; simpa using h, HXX, rfl, HJ.out _ _ _ (Nat.le_refl _) HJ0.out, KpF.of_below ((Below.refl _ _).alloc (Nat.le_refl _) _)⟩
  case round =>
    obtain ⟨bb, cid, pre, x, i, rfl, rfl, hbb, HC, HXX, HW, HJs, HK⟩ := hrel
    cases hh : hereF L cid with
    | false =>
      have HE : Hid (pre = wayF L id) := by show pre = _; rw [HW.out, wayF_none hh, List.append_nil]
      clear HXX HC
      gi_wp2
      go_end0
      exact ⟨⟨_, rfl⟩, .inl ⟨pre, HE.out, HJs.out⟩⟩
    | true =>
      obtain ⟨e1, e2⟩ := HXX.out hh
      subst e1 e2
      have hway := wayF_here HL.out hh
      have hpl : pre.length < 11 := by
        have h1 := wayF_len (L := L) id
        rw [HW.out, hway] at h1
        simp only [List.length_append, List.length_cons] at h1
        omega
      have HP : Hid (pre ++ [getF L cid] <+: wayF L id) := ⟨wayF L (getF L cid).pa, by rw [HW.out, hway]; simp⟩
      have HN : Hid (wayF L id = (pre ++ [getF L cid]) ++ wayF L (getF L cid).pa) := by show wayF L id = _; rw [HW.out, hway]; simp
      obtain ⟨k, hk, ew, eg, ei⟩ := here_wh hh
      have hkx : (getF L cid).id = cid := by rw [eg]; exact ei
      have HLT : Hid (whF L (getF L cid).pa < whF L (getF L cid).id) := by show _ < _; rw [hkx]; exact parent_less HL.out hh
      have hpar : -9223372036854775808 ≤ (getF L cid).pa ∧ (getF L cid).pa ≤ 9223372036854775807 := by
        rw [eg]
        have hok := (framesB_parts HL.out).2 k hk
        unfold okF holdF at hok
        simp only [Bool.and_eq_true, Bool.or_eq_true, beq_iff_eq, decide_eq_true_eq] at hok
        rcases hok.2 with h | h
        · rw [h]; omega
        · rcases whF_cases (L.take k) (atF L k).pa with ⟨j, hj, -, e1, -⟩ | ⟨e, -⟩
          · rw [List.length_take] at hj
            rw [atF_take (by omega) (by omega)] at e1
            have := (HID.out j (by omega)).1
            omega
          · omega
      have hkey2 := keyOf9 (id := (getF L cid).pa) hpar.1 hpar.2
      obtain ⟨fn, tmps, assign, body, hy, hR⟩ := HY.out pre (getF L cid) wr HJs.out hpl
      unfold frV at hy
      (try dsimp only at hy)
      have c0 : wr.cell? ⟨bb, 0, none⟩ = some (.int .i64 (getF L cid).id) := HC.out 0 _ rfl
      have c1 : wr.cell? ⟨bb, 1, none⟩ = some (.int .i64 (getF L cid).pa) := HC.out 1 _ rfl
      have c2 : wr.cell? ⟨bb, 2, none⟩ = some (.string (getF L cid).sc) := HC.out 2 _ rfl
      have c3 : wr.cell? ⟨bb, 3, none⟩ = some (.string (getF L cid).ho) := HC.out 3 _ rfl
      have c4 : wr.cell? ⟨bb, 4, none⟩ = some (.int .i64 (getF L cid).po) := HC.out 4 _ rfl
      have c5 : wr.cell? ⟨bb, 5, none⟩ = some (.string (getF L cid).pt) := HC.out 5 _ rfl
      have c6 : wr.cell? ⟨bb, 6, none⟩ = some (.bool (getF L cid).sb) := HC.out 6 _ rfl
      have c7 : wr.cell? ⟨bb, 7, none⟩ = some (.bool (getF L cid).fl) := HC.out 7 _ rfl
      have c8 : wr.cell? ⟨bb, 8, none⟩ = some (.int .i64 (getF L cid).tc) := HC.out 8 _ rfl
      have c9 : wr.cell? ⟨bb, 9, none⟩ = some (.int .i64 (getF L cid).pa) := HC.out 9 _ rfl
      have HK3 : Hid (∀ W3, KpF row n₁ wr W3 → W3.cell? ⟨bt, 0, none⟩ = some (.map (some bm)) ∧ TreeIs W3 bm 10 L) := fun W3 h3 =>
        have hk := HK.out.trans h3
        ⟨hk.cell HT.out HR.out.1.2, hk.tree HM.out hbm HR.out.1.1⟩
      have HC3 : Hid (∀ W3, KpF row n₁ wr W3 → ∀ o v, wr.cell? ⟨bb, o, none⟩ = some v → W3.cell? ⟨bb, o, none⟩ = some v) := fun W3 h3 o v hv => h3.cell hv (fun e => by have := HR.out.2 bb e.symm; have := hbb.out; omega)
      have HME : Hid (leftF L (.pointer (some ⟨bb, 0, none⟩)) (.bool true) wr = (whF L (getF L cid).id).toNat + 1) := leftF_is c0
      clear HXX HC HW hway hpl eg ei hkx ew hk
      have HGP : Hid (∀ D : DataW (Fr × Int), (∀ id : Int, (Maps.has D (.int .i64 id) = hereF L id) ∧ (hereF L id = true → ∀ zd, D.atKey (.int .i64 id) zd = .held (getF L id, (getF L id).pa))) → Maps.has D (.int .i64 (getF L cid).pa) = hereF L (getF L cid).pa ∧ ∀ x i, D.atKey (.int .i64 (getF L cid).pa) (.held (frNone, 0)) = .held (x, i) → hereF L (getF L cid).pa = true → x = getF L (getF L cid).pa ∧ i = (getF L (getF L cid).pa).pa) := fun D hD => ⟨(hD _).1, fun x i h1 h2 => by
        rw [(hD _).2 h2] at h1
        injection h1 with h1
        injection h1 with h1 h3
        exact ⟨h1.symm, h3.symm⟩⟩
      generalize getF L cid = y at *
      obtain ⟨yid, ypa, ysc, yho, ypo, ypt, ysb, yfl, ytc⟩ := y
      dsimp only at *
      gi_wp2
      refine hR.mono ?_
      rintro e W3 (⟨rfl, hJ3, hk3⟩ | ⟨rfl, hJx3⟩)
      · obtain ⟨ht3, hm3⟩ := HK3.out W3 hk3
        obtain ⟨D3, hown3, hD3⟩ := hm3
        have HO3 : Hid (W3.ownsMap Tryd.prog 2 brElem bm 10 D3) := hown3
        obtain ⟨hh3, hx3⟩ := HGP.out D3 hD3
        have HH : Hid (Maps.has D3 (.int .i64 ypa) = hereF L ypa) := hh3
        have HX : Hid (∀ x i, D3.atKey (.int .i64 ypa) (.held (frNone, 0)) = .held (x, i) → hereF L ypa = true → x = getF L ypa ∧ i = (getF L ypa).pa) := hx3
        have HJ3 : Hid (J (pre ++ [⟨yid, ypa, ysc, yho, ypo, ypt, ysb, yfl, ytc⟩]) W3) := hJ3
        have HKK : Hid (KpF row n₁ W W3) := HK.out.trans hk3
        have hbt3 : bt < W3.heap.size := Nat.lt_of_lt_of_le hbt (Nat.le_trans hn₁ HKK.out.1)
        have d0 := HC3.out W3 hk3 0 _ c0
        have d1 := HC3.out W3 hk3 1 _ c1
        have d2 := HC3.out W3 hk3 2 _ c2
        have d3 := HC3.out W3 hk3 3 _ c3
        have d4 := HC3.out W3 hk3 4 _ c4
        have d5 := HC3.out W3 hk3 5 _ c5
        have d6 := HC3.out W3 hk3 6 _ c6
        have d7 := HC3.out W3 hk3 7 _ c7
        have d8 := HC3.out W3 hk3 8 _ c8
        have d9 := HC3.out W3 hk3 9 _ c9
        clear hown3 hD3 hh3 hx3 hJ3 hk3 HC3 HK3 HGP c0 c1 c2 c3 c4 c5 c6 c7 c8 c9 hR
        gi_wp2_with (gi_at_lookup; refine wpListIn_lookup_own_ok _ rfl _ _ 90 rfl 2 105 int9Keyed Tryd.underlying90 brElem (Tryd.zeroValue105 _) (.held (frNone, 0)) [] rfl bm 10 D3 rfl (HO3.out.alloc _) _ _ rfl hkey2 ?_; intro v ps hv; obtain ⟨x, i, rfl, hc⟩ := brElem_inv hv; have hx := HX.out x i (congrArg Prod.fst hc); have HXX : Hid (hereF L ypa = true → x = getF L ypa ∧ i = (getF L ypa).pa) := hx; clear hc hv hx; obtain ⟨xid, xpa, xsc, xho, xpo, xpt, xsb, xfl, xtc⟩ := x; unfold brV; dsimp only; rw [HH.out])
        go_roundw
        case rel => exact ⟨W3.heap.size, ypa, _, ⟨xid, xpa, xsc, xho, xpo, xpt, xsb, xfl, xtc⟩, i, rfl, rfl, Nat.le_trans hn₁ HKK.out.1, fun o v h => by rw [World.cell?_alloc_new]; simpa using h, HXX, HN.out, HJ.out _ _ _ HKK.out.1 HJ3.out, HKK.out.trans (KpF.of_below ((Below.refl _ _).alloc (Nat.le_refl _) _))⟩
        case measure =>
          rw [HME.out]
          cases hp : hereF L ypa with
          | false => rw [leftF_end]; omega
          | true =>
            rw [leftF_is (by rw [World.cell?_alloc_new]; rfl)]
            obtain ⟨e1, -⟩ := HXX.out hp
            obtain ⟨k2, -, ew2, eg2, ei2⟩ := here_wh hp
            have h1 : xid = ypa := by
              have := congrArg Fr.id e1
              rw [eg2, ei2] at this
              exact this
            rw [h1]
            have := HLT.out
            omega
      · gi_wp2
        refine bodyPost_ret (results_none rfl _ _ _) rfl ?_
        exact ⟨⟨_, rfl⟩, .inr ⟨_, HP.out, hJx3⟩⟩
end Go.Proofs.YtnpaekjiafaahaaDoor

/- Where an owned row lies. -/
namespace Go.Proofs.YtnpaekjiafaahaaDoor
open Go.RowKit
theorem own_base {w : World} {B n sz : Nat} {e : TypeId} {v : Value} {xs : List Value} (h : w.ownsRow B e sz v n xs) : ∀ j, v.ownBlock = some j → B ≤ j := by
  intro j hj
  obtain ⟨_, ⟨rfl, _⟩ | ⟨g, cap, cur, rfl, hB, _⟩⟩ := h
  · cases hj
  · have : g = j := Option.some.inj hj
    omega
end Go.Proofs.YtnpaekjiafaahaaDoor

/- Rows of frames that a call owns. Written by rowsown.py. -/
namespace Go.Proofs.YtnpaekjiafaahaaDoor
open Go.RowKit

/-- the cells of one -/
def frVals (c : Fr) : List Value := [.int .i64 c.id, .int .i64 c.pa, .string c.sc, .string c.ho, .int .i64 c.po, .string c.pt, .bool c.sb, .bool c.fl, .int .i64 c.tc]
def frCells : List Fr → List Value
  | [] => []
  | c :: L => frVals c ++ frCells L
theorem frCells_snoc (L : List Fr) (c : Fr) : frCells L ++ frVals c = frCells (L ++ [c]) := by
  induction L with
  | nil => simp [frCells]
  | cons q L ih => simp only [frCells, List.cons_append, List.append_assoc, ih]
theorem frCells_len (L : List Fr) : (frCells L).length = L.length * 9 := by
  induction L with
  | nil => rfl
  | cons q L ih => simp only [frCells, List.length_append, ih, List.length_cons]; show 9 + _ = _; omega
theorem frVals_at (c : Fr) : ∀ o, o < 9 → (frVals c)[o]? = some (frC c o)
  | 0, _ => rfl
  | 1, _ => rfl
  | 2, _ => rfl
  | 3, _ => rfl
  | 4, _ => rfl
  | 5, _ => rfl
  | 6, _ => rfl
  | 7, _ => rfl
  | 8, _ => rfl
theorem frCells_at : ∀ (L : List Fr) (j : Nat), j < L.length → ∀ o, o < 9 → (frCells L)[j * 9 + o]? = some (frR L j o)
  | [], j, h, _, _ => by simp at h
  | c :: L, 0, _, o, ho => by
    rw [Nat.zero_mul, Nat.zero_add, frCells, List.getElem?_append_left (by show o < 9; exact ho), frVals_at c o ho]
    rfl
  | c :: L, j + 1, h, o, ho => by
    have ih := frCells_at L j (by simpa using h) o ho
    have hl : (frVals c).length = 9 := rfl
    rw [frCells, List.getElem?_append_right (by rw [hl]; omega), hl, show (j + 1) * 9 + o - 9 = j * 9 + o by omega, ih]
    simp [frR, atF]
theorem sliceF_of_own {w : World} {B : Nat} {t : TypeId} {v : Value} {L : List Fr} (h : w.ownsRow B t 9 v L.length (frCells L)) : SliceF w B v L := by
  refine ⟨sliceR_of_own h (frCells_at L), ?_⟩
  obtain ⟨_, ⟨rfl, h0⟩ | ⟨g, cap, cur, rfl, _, _, hc, _⟩⟩ := h
  · exact ⟨none, 0, by rw [h0], by omega, fun _ => rfl⟩
  · exact ⟨_, cap, rfl, hc, fun h => by cases h⟩
theorem sliceF_none (w : World) (B : Nat) : SliceF w B (.slice none 0 0) [] := ⟨sliceR_none _ _ _ _ _ _, none, 0, rfl, Nat.le_refl _, fun _ => rfl⟩
theorem cell_Fr (w : World) (c : Fr) (t : TypeId) : ∀ j u, (frVals c)[j]? = some u → (w.alloc (.cells #[.int .i64 c.id, .int .i64 c.pa, .string c.sc, .string c.ho, .int .i64 c.po, .string c.pt, .bool c.sb, .bool c.fl, .int .i64 c.tc] t)).cell? ((⟨w.heap.size, 0, none⟩ : Addr).add j) = some u := by
  intro j u h
  have e : (⟨w.heap.size, 0, none⟩ : Addr).add j = ⟨w.heap.size, j, none⟩ := by unfold Addr.add; split <;> simp_all
  rw [e, World.cell?_alloc_new, ← Array.getElem?_toList]
  exact h
theorem one_Fr (c : Fr) : ∀ v ∈ frVals c, v.oneCell' = true := by
  intro u hu
  simp only [frVals, List.mem_cons, List.not_mem_nil, or_false] at hu
  rcases hu with rfl | rfl | rfl | rfl | rfl | rfl | rfl | rfl | rfl <;> rfl
/-- a row of them, kept while other blocks are written -/
theorem ownF_keep {w w' : World} {B n sz : Nat} {row : Option Nat} {e : TypeId} {v : Value} {xs : List Value} (h : w.ownsRow B e sz v n xs) (hg : w.grownBy w' row) (hne : ∀ g, v.ownBlock = some g → row ≠ some g) : w'.ownsRow B e sz v n xs := by
  obtain ⟨hl, h0 | ⟨g, cap, cur, rfl, hbg, hh, r⟩⟩ := h
  · exact ⟨hl, .inl h0⟩
  · have hgl : g < w.heap.size := (Array.getElem?_eq_some_iff.mp hh).1
    exact ⟨hl, .inr ⟨g, cap, cur, rfl, hbg, by rw [hg.block g hgl (fun e => hne g rfl e.symm)]; exact hh, r⟩⟩
end Go.Proofs.YtnpaekjiafaahaaDoor

/- The walk of the program's topOf over the iterator. Written by impltop.py. -/
namespace Go.Proofs.YtnpaekjiafaahaaDoor
open Go.RowKit Go.Maps Go.Shelf
attribute [local go_sem] Oper.semAt_some

theorem BoxV.kept {W W' : World} {b : Nat} {vs : List Value} {row : Option Nat} (h : BoxV W b vs) (hg : W.grownBy W' row) (hrow : ∀ r, row = some r → ∃ o : Obj, W.heap[r]? = some o ∧ o.isCells = false) : BoxV W' b vs :=
  ⟨Nat.lt_of_lt_of_le h.1 hg.size, fun _ _ e => ⟨cell_kept (h.at e) hg hrow, (frozen_kept (h.at e) hg hrow).trans (h.free e)⟩⟩
/-- the iterator's contract, as the loop's law wants it -/
theorem outward_stops (n : Nat) (hn : 1 ≤ n) (bt bi bm : Nat) (row : Option Nat) (L : List Fr) (hL : framesB L = true) (id : Int) (i1 : -9223372036854775808 ≤ id) (i2 : id ≤ 9223372036854775807) (w : World)
    (ht : w.cell? ⟨bt, 0, none⟩ = some (.map (some bm))) (hi : w.cell? ⟨bi, 0, none⟩ = some (.int .i64 id)) (hm : TreeIs w bm 10 L) (hbt : bt < w.heap.size) (hbi : bi < w.heap.size) (r1 : some bm ≠ row) (r2 : some bt ≠ row) (hrow : ∀ r, row = some r → r < w.heap.size) :
    SeqStopsK Fence.wide n Tryd.prog 90 #[.pointer (some ⟨bt, 0, none⟩), .pointer (some ⟨bi, 0, none⟩)] (fun x : Fr => #[frV x]) (KpF row w.heap.size) (fun ys => ys = wayF L id) (fun pre => pre <+: wayF L id) 11 w :=
  fun l J Jx W hW hJ _ hY h0 => outward1_in n hn l bt bi bm w.heap.size row L hL id i1 i2 J Jx W hJ hY ((hW.cell (p := ⟨bt, 0, none⟩) hbt).trans ht) ((hW.cell (p := ⟨bi, 0, none⟩) hbi).trans hi) (hm.of_block (hW.block bm hm.lt)) hm.lt hbt r1 r2 hW.size hrow h0
theorem BoxV.set_other {w : World} {b g o : Nat} {vs : List Value} {v : Value} (h : BoxV w b vs) (hne : g ≠ b) : BoxV (w.setCell ⟨g, o, none⟩ v) b vs :=
  h.of_block (Below.heap_setCell _ _ _ _ (fun e => hne (by first | exact e | exact e.symm))) (by simp [World.setCell])
theorem BoxV.set {w : World} {b : Nat} {vs : List Value} (h : BoxV w b vs) (i : Nat) (hi : i < vs.length) (v : Value) : BoxV (w.setCell ⟨b, i, none⟩ v) b (vs.set i v) := by
  refine ⟨by simpa [World.setCell] using h.1, fun j u e => ?_⟩
  have hf : ∃ u', vs[j]? = some u' := by
    by_cases hj : j = i
    · subst hj; exact ⟨_, List.getElem?_eq_getElem hi⟩
    · rw [List.getElem?_set_ne (fun e' => hj e'.symm)] at e; exact ⟨u, e⟩
  obtain ⟨u', hu'⟩ := hf
  refine ⟨?_, (World.frozen?_setCell _ _ _ _).trans (h.free hu')⟩
  by_cases hj : j = i
  · subst hj
    rw [List.getElem?_set_self hi] at e
    obtain rfl := Option.some.inj e
    exact World.cell?_setCell_same _ _ _ (h.at hu')
  · rw [List.getElem?_set_ne (fun e' => hj e'.symm)] at e
    rw [World.cell?_setCell_other _ _ _ _ (fun e' => hj (by injection e' with _ e'; exact e'.symm))]
    exact h.at e
theorem KpF.set {b n₁ o : Nat} {A B : World} {v : Value} (h : KpF (some b) n₁ A B) : KpF (some b) n₁ A (B.setCell ⟨b, o, none⟩ v) :=
  ⟨by simpa [World.setCell] using h.1, fun k q hk hA hor => by
    have := h.2 k q hk hA hor
    rw [Below.heap_setCell _ _ _ _ (fun e => hk (by rw [show k = b from by first | exact e | exact e.symm]))]
    exact this⟩
theorem boxed9_one (w : World) (v : Value) (t : TypeId) : (w.alloc (.cells #[v] t)).cell? ⟨w.heap.size, 0, none⟩ = some v := by simp
set_option maxRecDepth 100000 in
set_option maxHeartbeats 8000000 in
theorem topOf_any (v : Value) (L : List Fr) (B : Nat) (id : Int) (w : World) (hs : SliceF w B v L) (hL : framesB L = true) (i1 : -9223372036854775808 ≤ id) (i2 : id ≤ 9223372036854775807) :
    Calls Tryd.prog 65 #[v, .int .i64 id] w fun e w' => e = .returned (frV ((wayF L id).getLastD frNone)) ∧ Below w.heap.size w w' := by
  have HT0 : Hid (∀ W, Below w.heap.size w W → Calls Tryd.prog 70 #[v] W fun e w' => ∃ bm, e = .returned (.map (some bm)) ∧ W.heap.size ≤ bm ∧ TreeIs w' bm 10 L ∧ Below W.heap.size W w') := fun W hb => treeOf_any v L B W (hs.below hb) hL
  have HX0 : Hid (BoxV (w.alloc (.cells #[.int .i64 0, .int .i64 0, .string ⟨#[]⟩, .string ⟨#[]⟩, .int .i64 0, .string ⟨#[]⟩, .bool false, .bool false, .int .i64 0] 60)) w.heap.size [.int .i64 0, .int .i64 0, .string ⟨#[]⟩, .string ⟨#[]⟩, .int .i64 0, .string ⟨#[]⟩, .bool false, .bool false, .int .i64 0]) := boxV_new w [.int .i64 0, .int .i64 0, .string ⟨#[]⟩, .string ⟨#[]⟩, .int .i64 0, .string ⟨#[]⟩, .bool false, .bool false, .int .i64 0] 60
  have HY0 : Hid (BoxV ((w.alloc (.cells #[.int .i64 0, .int .i64 0, .string ⟨#[]⟩, .string ⟨#[]⟩, .int .i64 0, .string ⟨#[]⟩, .bool false, .bool false, .int .i64 0] 60)).alloc (.cells #[.int .i64 0, .int .i64 0, .string ⟨#[]⟩, .string ⟨#[]⟩, .int .i64 0, .string ⟨#[]⟩, .bool false, .bool false, .int .i64 0] 60)) (w.heap.size + 1) [.int .i64 0, .int .i64 0, .string ⟨#[]⟩, .string ⟨#[]⟩, .int .i64 0, .string ⟨#[]⟩, .bool false, .bool false, .int .i64 0]) := by
    have h := boxV_new (w.alloc (.cells #[.int .i64 0, .int .i64 0, .string ⟨#[]⟩, .string ⟨#[]⟩, .int .i64 0, .string ⟨#[]⟩, .bool false, .bool false, .int .i64 0] 60)) [.int .i64 0, .int .i64 0, .string ⟨#[]⟩, .string ⟨#[]⟩, .int .i64 0, .string ⟨#[]⟩, .bool false, .bool false, .int .i64 0] 60
    rw [World.size_alloc] at h
    exact h
  have HB0 : Hid (Below w.heap.size w ((w.alloc (.cells #[.int .i64 0, .int .i64 0, .string ⟨#[]⟩, .string ⟨#[]⟩, .int .i64 0, .string ⟨#[]⟩, .bool false, .bool false, .int .i64 0] 60)).alloc (.cells #[.int .i64 0, .int .i64 0, .string ⟨#[]⟩, .string ⟨#[]⟩, .int .i64 0, .string ⟨#[]⟩, .bool false, .bool false, .int .i64 0] 60))) := ((Below.refl _ _).alloc (Nat.le_refl _) _).alloc (by simp) _
  refine (callsIn_wide (n := 6)).1 ?_
  refine callsIn_of_wp_marks Tryd.func65 rfl trivial ?_ rfl
  simp only [Tryd.ntmps65, List.size_toArray, List.length_cons, List.length_nil, Nat.reduceAdd, Nat.reduceSub, Array.replicate_succ, Array.replicate_zero, List.push_toArray, List.append_toArray, List.nil_append, List.cons_append]
  gi_wp2_with fail
  refine ⟨trivial, ?_⟩
  refine (callsIn_wide.2 (HT0.out _ HB0.out)).mono ?_
  rintro e w1 ⟨bm, rfl, hbm, hm1, hb1⟩
  have HX1 : Hid (BoxV w1 w.heap.size [.int .i64 0, .int .i64 0, .string ⟨#[]⟩, .string ⟨#[]⟩, .int .i64 0, .string ⟨#[]⟩, .bool false, .bool false, .int .i64 0]) := (HX0.out.alloc _).below hb1
  have HY1 : Hid (BoxV w1 (w.heap.size + 1) [.int .i64 0, .int .i64 0, .string ⟨#[]⟩, .string ⟨#[]⟩, .int .i64 0, .string ⟨#[]⟩, .bool false, .bool false, .int .i64 0]) := HY0.out.below hb1
  have HB1 : Hid (Below w.heap.size w w1) := HB0.out.trans (hb1.mono HB0.out.size)
  have HM1 : Hid (TreeIs w1 bm 10 L) := hm1
  have hbm2 : w.heap.size + 2 ≤ bm := by simpa using hbm
  clear hb1 hm1 HX0 HY0 HB0 hbm HT0
  gi_wp2_with fail
  refine ⟨trivial, ?_⟩
  refine (callsIn_wide.2 (outward_any bm id _)).mono ?_
  rintro e w2 ⟨rfl, rfl⟩
  gi_wp2_with fail
  obtain ⟨W2, hW2⟩ : ∃ W2, W2 = (w1.alloc (.cells #[.map (some bm)] 90)).alloc (.cells #[.int .i64 id] 2) := ⟨_, rfl⟩
  rw [← hW2]
  have hb2 : Below w1.heap.size w1 W2 := by rw [hW2]; exact ((Below.refl _ _).alloc (Nat.le_refl _) _).alloc (by simp) _
  have z2 : W2.heap.size = w1.heap.size + 1 + 1 := by rw [hW2]; simp
  have ht2 : W2.cell? ⟨w1.heap.size, 0, none⟩ = some (.map (some bm)) := by rw [hW2]; exact (cell_under9 _ _ _ _ (by simp)).trans (by simp)
  have hi2 : W2.cell? ⟨w1.heap.size + 1, 0, none⟩ = some (.int .i64 id) := by rw [hW2]; exact (World.cell?_alloc_at _ _ _ _ (by simp)).trans rfl
  have hX2 : BoxV W2 w.heap.size [.int .i64 0, .int .i64 0, .string ⟨#[]⟩, .string ⟨#[]⟩, .int .i64 0, .string ⟨#[]⟩, .bool false, .bool false, .int .i64 0] := HX1.out.below hb2
  have hY2 : BoxV W2 (w.heap.size + 1) [.int .i64 0, .int .i64 0, .string ⟨#[]⟩, .string ⟨#[]⟩, .int .i64 0, .string ⟨#[]⟩, .bool false, .bool false, .int .i64 0] := HY1.out.below hb2
  have hm2 : TreeIs W2 bm 10 L := HM1.out.below hb2
  have hB2 : Below w.heap.size w W2 := HB1.out.trans (hb2.mono HB1.out.size)
  have zw : w.heap.size + 1 < w1.heap.size := HY1.out.1
  have zb : bm < w1.heap.size := HM1.out.lt
  clear hW2 hb2 HX1 HY1 HM1 HB1
  generalize hrb : w.heap.size = rb at *
  generalize htb : rb + 1 = tb at *
  generalize hbt : w1.heap.size = bt at *
  generalize hbi : bt + 1 = bi at *
  refine wpIn_rangeFunc_ownH rfl (by omega) (gf := 90) (lb := #[.pointer (some ⟨bt, 0, none⟩), .pointer (some ⟨bi, 0, none⟩)]) rfl trivial (enters_of Tryd.func90 (by kernel_rfl) rfl)
    (outward_stops (6 - 1) (by omega) bt bi bm (some tb) L hL id i1 i2 W2 ht2 hi2 hm2 (by omega) (by omega) (fun e => by have := Option.some.inj e; omega) (fun e => by have := Option.some.inj e; omega) (fun r e => by have := Option.some.inj e; omega)) (fun h k => KpF.trans h k) (KpF.put (Nat.le_refl _)) (Below.refl _ _) (fun _ => rfl)
    (fun pre W => ((BoxV W rb [.int .i64 0, .int .i64 0, .string ⟨#[]⟩, .string ⟨#[]⟩, .int .i64 0, .string ⟨#[]⟩, .bool false, .bool false, .int .i64 0] ∧ BoxV W tb (frVals (pre.getLastD frNone))) ∧ W2.heap.size ≤ W.heap.size) ∧ Below rb w W)
    (fun _ _ _ => False)
    (OwnFrom.and (Own.from (fun s X Y row hs hg hr => ⟨⟨hs.1.1.kept hg hr, hs.1.2.kept hg hr⟩, Nat.le_trans hs.2 hg.size⟩) _) (ownFrom_below (Nat.le_of_eq hrb.symm) (by omega)))
    (fun _ _ _ _ _ hs _ _ => hs)
    ⟨⟨⟨hX2, hY2⟩, Nat.le_refl _⟩, hB2⟩
    (fun x a' W => ∃ Bx, W2.heap.size ≤ Bx ∧ BoxV W Bx (frVals x) ∧ a' = { tmps := #[v, .int .i64 id, undef, undef, .pointer (some ⟨rb, 0, none⟩), .pointer (some ⟨tb, 0, none⟩), .pointer (some ⟨Bx, 0, none⟩), v, .map (some bm), .int .i64 id, .func (.func 90) #[] #[.pointer (some ⟨bt, 0, none⟩), .pointer (some ⟨bi, 0, none⟩)], frV x, undef, undef], defers := [] })
    (fun x a' s X Y row hs hg hr => by obtain ⟨Bx, h1, h2, h3⟩ := hs; exact ⟨Bx, h1, h2.kept hg (fun r e => (hr r e).2), h3⟩) ?assign ?body ?done ?stop
  case assign =>
    rintro l pre x W K ⟨⟨⟨h1, h2⟩, hz⟩, h3⟩ hK
    have hx := boxV_new W (frVals x) 60
    unfold frVals frV at *
    dsimp only at *
    gi_wp2
    exact hK _ _ ((KeepsOthers.alloc _ _).from _) (KpF.of_below ((Below.refl _ _).alloc (Nat.le_refl _) _)) ⟨⟨⟨h1.alloc _, h2.alloc _⟩, by simp; omega⟩, h3.alloc (Nat.le_of_lt h1.1) _⟩ ⟨W.heap.size, hz, hx, rfl⟩
  case body =>
    rintro l pre x a' W hl ⟨r, hr⟩ ⟨⟨⟨h1, h2⟩, hz⟩, h3⟩ ⟨Bx, hBx, bX, rfl⟩ hlt
    have HE : Hid ((pre ++ [x]).getLastD frNone = x) := by show _ = _; simp
    have H1 : Hid (BoxV W rb [.int .i64 0, .int .i64 0, .string ⟨#[]⟩, .string ⟨#[]⟩, .int .i64 0, .string ⟨#[]⟩, .bool false, .bool false, .int .i64 0]) := h1
    have H2 : Hid (BoxV W tb (frVals (pre.getLastD frNone))) := h2
    have H3 : Hid (Below rb w W) := h3
    have HNE : Hid (tb ≠ rb) := by show tb ≠ rb; omega
    clear h1 h2 h3 hr hlt
    generalize pre.getLastD frNone = p at *
    obtain ⟨pid, ppa, psc, pho, ppo, ppt, psb, pfl, ptc⟩ := p
    obtain ⟨xid, xpa, xsc, xho, xpo, xpt, xsb, xfl, xtc⟩ := x
    unfold frVals at *
    dsimp only at *
    have x0 : W.cell? ⟨Bx, 0, none⟩ = some (.int .i64 xid) := bX.at (i := 0) rfl
    have x1 : W.cell? ⟨Bx, 1, none⟩ = some (.int .i64 xpa) := bX.at (i := 1) rfl
    have x2 : W.cell? ⟨Bx, 2, none⟩ = some (.string xsc) := bX.at (i := 2) rfl
    have x3 : W.cell? ⟨Bx, 3, none⟩ = some (.string xho) := bX.at (i := 3) rfl
    have x4 : W.cell? ⟨Bx, 4, none⟩ = some (.int .i64 xpo) := bX.at (i := 4) rfl
    have x5 : W.cell? ⟨Bx, 5, none⟩ = some (.string xpt) := bX.at (i := 5) rfl
    have x6 : W.cell? ⟨Bx, 6, none⟩ = some (.bool xsb) := bX.at (i := 6) rfl
    have x7 : W.cell? ⟨Bx, 7, none⟩ = some (.bool xfl) := bX.at (i := 7) rfl
    have x8 : W.cell? ⟨Bx, 8, none⟩ = some (.int .i64 xtc) := bX.at (i := 8) rfl
    have y0 : W.cell? ⟨tb, 0, none⟩ = some (.int .i64 pid) := H2.out.at (i := 0) rfl
    have yf0 : W.frozen? ⟨tb, 0, none⟩ = false := H2.out.free (i := 0) rfl
    have y1 : W.cell? ⟨tb, 1, none⟩ = some (.int .i64 ppa) := H2.out.at (i := 1) rfl
    have yf1 : W.frozen? ⟨tb, 1, none⟩ = false := H2.out.free (i := 1) rfl
    have y2 : W.cell? ⟨tb, 2, none⟩ = some (.string psc) := H2.out.at (i := 2) rfl
    have yf2 : W.frozen? ⟨tb, 2, none⟩ = false := H2.out.free (i := 2) rfl
    have y3 : W.cell? ⟨tb, 3, none⟩ = some (.string pho) := H2.out.at (i := 3) rfl
    have yf3 : W.frozen? ⟨tb, 3, none⟩ = false := H2.out.free (i := 3) rfl
    have y4 : W.cell? ⟨tb, 4, none⟩ = some (.int .i64 ppo) := H2.out.at (i := 4) rfl
    have yf4 : W.frozen? ⟨tb, 4, none⟩ = false := H2.out.free (i := 4) rfl
    have y5 : W.cell? ⟨tb, 5, none⟩ = some (.string ppt) := H2.out.at (i := 5) rfl
    have yf5 : W.frozen? ⟨tb, 5, none⟩ = false := H2.out.free (i := 5) rfl
    have y6 : W.cell? ⟨tb, 6, none⟩ = some (.bool psb) := H2.out.at (i := 6) rfl
    have yf6 : W.frozen? ⟨tb, 6, none⟩ = false := H2.out.free (i := 6) rfl
    have y7 : W.cell? ⟨tb, 7, none⟩ = some (.bool pfl) := H2.out.at (i := 7) rfl
    have yf7 : W.frozen? ⟨tb, 7, none⟩ = false := H2.out.free (i := 7) rfl
    have y8 : W.cell? ⟨tb, 8, none⟩ = some (.int .i64 ptc) := H2.out.at (i := 8) rfl
    have yf8 : W.frozen? ⟨tb, 8, none⟩ = false := H2.out.free (i := 8) rfl
    clear bX
    gi_wp2
    refine ⟨(KeepsOthers.from (KeepsOthers.trans (KeepsOthers.trans (KeepsOthers.trans (KeepsOthers.trans (KeepsOthers.trans (KeepsOthers.trans (KeepsOthers.trans (KeepsOthers.trans (KeepsOthers.trans (KeepsOthers.refl _) (KeepsOthers.setCell _ _ _)) (KeepsOthers.setCell _ _ _)) (KeepsOthers.setCell _ _ _)) (KeepsOthers.setCell _ _ _)) (KeepsOthers.setCell _ _ _)) (KeepsOthers.setCell _ _ _)) (KeepsOthers.setCell _ _ _)) (KeepsOthers.setCell _ _ _)) (KeepsOthers.setCell _ _ _)) _), (KpF.set (KpF.set (KpF.set (KpF.set (KpF.set (KpF.set (KpF.set (KpF.set (KpF.set (KpF.refl _ _ _)))))))))), ⟨⟨⟨(BoxV.set_other (BoxV.set_other (BoxV.set_other (BoxV.set_other (BoxV.set_other (BoxV.set_other (BoxV.set_other (BoxV.set_other (BoxV.set_other H1.out HNE.out) HNE.out) HNE.out) HNE.out) HNE.out) HNE.out) HNE.out) HNE.out) HNE.out), ?_⟩, by simpa using hz⟩, (Below.setCell (Below.setCell (Below.setCell (Below.setCell (Below.setCell (Below.setCell (Below.setCell (Below.setCell (Below.setCell H3.out (show rb ≤ tb from by omega) _) (show rb ≤ tb from by omega) _) (show rb ≤ tb from by omega) _) (show rb ≤ tb from by omega) _) (show rb ≤ tb from by omega) _) (show rb ≤ tb from by omega) _) (show rb ≤ tb from by omega) _) (show rb ≤ tb from by omega) _) (show rb ≤ tb from by omega) _)⟩⟩
    rw [HE.out]
    exact (BoxV.set (BoxV.set (BoxV.set (BoxV.set (BoxV.set (BoxV.set (BoxV.set (BoxV.set (BoxV.set H2.out 0 (by simp) _) 1 (by simp) _) 2 (by simp) _) 3 (by simp) _) 4 (by simp) _) 5 (by simp) _) 6 (by simp) _) 7 (by simp) _) 8 (by simp) _)
  case done =>
    rintro D ys W hD rfl ⟨⟨⟨h1, h2⟩, hz⟩, h3⟩ hK
    have HK : Hid (W.heap[D]? = some (.deferred (some []))) := hK
    have H1 : Hid (BoxV W rb [.int .i64 0, .int .i64 0, .string ⟨#[]⟩, .string ⟨#[]⟩, .int .i64 0, .string ⟨#[]⟩, .bool false, .bool false, .int .i64 0]) := h1
    have H3 : Hid (Below rb w W) := h3
    clear hK h3
    generalize hp : (wayF L id).getLastD frNone = p at *
    obtain ⟨pid, ppa, psc, pho, ppo, ppt, psb, pfl, ptc⟩ := p
    unfold frVals at *
    dsimp only at *
    have y0 : W.cell? ⟨tb, 0, none⟩ = some (.int .i64 pid) := h2.at (i := 0) rfl
    have y1 : W.cell? ⟨tb, 1, none⟩ = some (.int .i64 ppa) := h2.at (i := 1) rfl
    have y2 : W.cell? ⟨tb, 2, none⟩ = some (.string psc) := h2.at (i := 2) rfl
    have y3 : W.cell? ⟨tb, 3, none⟩ = some (.string pho) := h2.at (i := 3) rfl
    have y4 : W.cell? ⟨tb, 4, none⟩ = some (.int .i64 ppo) := h2.at (i := 4) rfl
    have y5 : W.cell? ⟨tb, 5, none⟩ = some (.string ppt) := h2.at (i := 5) rfl
    have y6 : W.cell? ⟨tb, 6, none⟩ = some (.bool psb) := h2.at (i := 6) rfl
    have y7 : W.cell? ⟨tb, 7, none⟩ = some (.bool pfl) := h2.at (i := 7) rfl
    have y8 : W.cell? ⟨tb, 8, none⟩ = some (.int .i64 ptc) := h2.at (i := 8) rfl
    have z0 : W.cell? ⟨rb, 0, none⟩ = some (.int .i64 0) := H1.out.at (i := 0) rfl
    have zf0 : W.frozen? ⟨rb, 0, none⟩ = false := H1.out.free (i := 0) rfl
    have z1 : W.cell? ⟨rb, 1, none⟩ = some (.int .i64 0) := H1.out.at (i := 1) rfl
    have zf1 : W.frozen? ⟨rb, 1, none⟩ = false := H1.out.free (i := 1) rfl
    have z2 : W.cell? ⟨rb, 2, none⟩ = some (.string ⟨#[]⟩) := H1.out.at (i := 2) rfl
    have zf2 : W.frozen? ⟨rb, 2, none⟩ = false := H1.out.free (i := 2) rfl
    have z3 : W.cell? ⟨rb, 3, none⟩ = some (.string ⟨#[]⟩) := H1.out.at (i := 3) rfl
    have zf3 : W.frozen? ⟨rb, 3, none⟩ = false := H1.out.free (i := 3) rfl
    have z4 : W.cell? ⟨rb, 4, none⟩ = some (.int .i64 0) := H1.out.at (i := 4) rfl
    have zf4 : W.frozen? ⟨rb, 4, none⟩ = false := H1.out.free (i := 4) rfl
    have z5 : W.cell? ⟨rb, 5, none⟩ = some (.string ⟨#[]⟩) := H1.out.at (i := 5) rfl
    have zf5 : W.frozen? ⟨rb, 5, none⟩ = false := H1.out.free (i := 5) rfl
    have z6 : W.cell? ⟨rb, 6, none⟩ = some (.bool false) := H1.out.at (i := 6) rfl
    have zf6 : W.frozen? ⟨rb, 6, none⟩ = false := H1.out.free (i := 6) rfl
    have z7 : W.cell? ⟨rb, 7, none⟩ = some (.bool false) := H1.out.at (i := 7) rfl
    have zf7 : W.frozen? ⟨rb, 7, none⟩ = false := H1.out.free (i := 7) rfl
    have z8 : W.cell? ⟨rb, 8, none⟩ = some (.int .i64 0) := H1.out.at (i := 8) rfl
    have zf8 : W.frozen? ⟨rb, 8, none⟩ = false := H1.out.free (i := 8) rfl
    clear h1 h2
    gi_wp2
    obtain ⟨Wz, hWz⟩ : ∃ Wz, Wz = (((((((((W.setCell ⟨rb, 0, none⟩ (.int .i64 pid)).setCell ⟨rb, 1, none⟩ (.int .i64 ppa)).setCell ⟨rb, 2, none⟩ (.string psc)).setCell ⟨rb, 3, none⟩ (.string pho)).setCell ⟨rb, 4, none⟩ (.int .i64 ppo)).setCell ⟨rb, 5, none⟩ (.string ppt)).setCell ⟨rb, 6, none⟩ (.bool psb)).setCell ⟨rb, 7, none⟩ (.bool pfl)).setCell ⟨rb, 8, none⟩ (.int .i64 ptc)) := ⟨_, rfl⟩
    rw [← hWz]
    have hKz : Wz.heap[D]? = some (.deferred (some [])) := by
      rw [hWz]
      exact ((KeepsOthers.trans (KeepsOthers.trans (KeepsOthers.trans (KeepsOthers.trans (KeepsOthers.trans (KeepsOthers.trans (KeepsOthers.trans (KeepsOthers.trans (KeepsOthers.trans (KeepsOthers.refl _) (KeepsOthers.setCell _ _ _)) (KeepsOthers.setCell _ _ _)) (KeepsOthers.setCell _ _ _)) (KeepsOthers.setCell _ _ _)) (KeepsOthers.setCell _ _ _)) (KeepsOthers.setCell _ _ _)) (KeepsOthers.setCell _ _ _)) (KeepsOthers.setCell _ _ _)) (KeepsOthers.setCell _ _ _))).same D _ HK.out rfl
    have hZ : BoxV Wz rb [.int .i64 pid, .int .i64 ppa, .string psc, .string pho, .int .i64 ppo, .string ppt, .bool psb, .bool pfl, .int .i64 ptc] := by rw [hWz]; exact (BoxV.set (BoxV.set (BoxV.set (BoxV.set (BoxV.set (BoxV.set (BoxV.set (BoxV.set (BoxV.set H1.out 0 (by simp) _) 1 (by simp) _) 2 (by simp) _) 3 (by simp) _) 4 (by simp) _) 5 (by simp) _) 6 (by simp) _) 7 (by simp) _) 8 (by simp) _)
    have hBz : Below rb w Wz := by rw [hWz]; exact (Below.setCell (Below.setCell (Below.setCell (Below.setCell (Below.setCell (Below.setCell (Below.setCell (Below.setCell (Below.setCell H3.out (Nat.le_refl _) _) (Nat.le_refl _) _) (Nat.le_refl _) _) (Nat.le_refl _) _) (Nat.le_refl _) _) (Nat.le_refl _) _) (Nat.le_refl _) _) (Nat.le_refl _) _) (Nat.le_refl _) _)
    clear hWz
    have hQ : BoxV (Wz.putObj D (.deferred none)) rb [.int .i64 pid, .int .i64 ppa, .string psc, .string pho, .int .i64 ppo, .string ppt, .bool psb, .bool pfl, .int .i64 ptc] := hZ.kept (grownBy_putObj' Wz D _) (fun r e => by cases e; exact ⟨_, hKz, rfl⟩)
    refine ⟨by simp, .inl ⟨_, _, rfl, run_takeDeferred hKz, ?_⟩⟩
    have q0 : (Wz.putObj D (.deferred none)).cell? ⟨rb, 0, none⟩ = some (.int .i64 pid) := hQ.at (i := 0) rfl
    have q1 : (Wz.putObj D (.deferred none)).cell? ⟨rb, 1, none⟩ = some (.int .i64 ppa) := hQ.at (i := 1) rfl
    have q2 : (Wz.putObj D (.deferred none)).cell? ⟨rb, 2, none⟩ = some (.string psc) := hQ.at (i := 2) rfl
    have q3 : (Wz.putObj D (.deferred none)).cell? ⟨rb, 3, none⟩ = some (.string pho) := hQ.at (i := 3) rfl
    have q4 : (Wz.putObj D (.deferred none)).cell? ⟨rb, 4, none⟩ = some (.int .i64 ppo) := hQ.at (i := 4) rfl
    have q5 : (Wz.putObj D (.deferred none)).cell? ⟨rb, 5, none⟩ = some (.string ppt) := hQ.at (i := 5) rfl
    have q6 : (Wz.putObj D (.deferred none)).cell? ⟨rb, 6, none⟩ = some (.bool psb) := hQ.at (i := 6) rfl
    have q7 : (Wz.putObj D (.deferred none)).cell? ⟨rb, 7, none⟩ = some (.bool pfl) := hQ.at (i := 7) rfl
    have q8 : (Wz.putObj D (.deferred none)).cell? ⟨rb, 8, none⟩ = some (.int .i64 ptc) := hQ.at (i := 8) rfl
    exact ⟨.agg #[.int .i64 pid, .int .i64 ppa, .string psc, .string pho, .int .i64 ppo, .string ppt, .bool psb, .bool pfl, .int .i64 ptc], by simp [results, Tryd.results65, go_sem, q0, q1, q2, q3, q4, q5, q6, q7, q8], by rw [hp]; rfl, by rw [hrb]; exact hBz.trans (belowK_b (w := W2) (by omega) Wz D _ _ hD hKz rfl rfl)⟩
  case stop =>
    rintro D c pre W _ _ h _
    exact h.elim
end Go.Proofs.YtnpaekjiafaahaaDoor
