/- 13 of this claim's texts, one behind the other. -/
import Derived.Test.YtclpamjgglfljaaDoorPart1
import Derived.Laws.ResultCell
import Derived.Maps.Own
import Derived.Maps.OwnOps
import Derived.Maps.OwnSet
import Derived.Maps.Views
import Derived.Deep.RegionHeld3
import Derived.RangeFuncNested
import Derived.RangeFuncBound
import Derived.RangeFuncCalls
import Derived.RangeFuncLeaves
import Derived.Shelf.Abstract
import Derived.Shelf.RegionOpen
import Derived.WalkKit
import Derived.OwnWalkIn
import Derived.TacticsInMore
import Derived.LoopNIn
import Derived.LoopIn
import Derived.Maps.OwnIn
import Derived.Laws.AppendOwn
import Derived.Deep.DeepCutAuto
import Derived.RangeFuncBox
import Derived.RangeFuncFrom
import Derived.RangeFuncWrites
/- The walks of the specification's OriginRight and OriginOf. -/
namespace Go.Proofs.YtclpamjgglfljaaDoor
open Go.RowKit

/-- an Origin, as a value -/
def originV (sc ho : ByteArray) (po no : Int) : Value := .agg #[.string sc, .string ho, .int .i64 po, .int .i64 no]
def originB (sc ho : ByteArray) (po no : Int) : Bool := if no = 0 then placeB sc ho po else (decide (1 ≤ no) && decide (no ≤ 1000000)) && sc.toList.isEmpty && ho.toList.isEmpty && (po == 0)
def originT (sc ho : ByteArray) (po no : Int) : ByteArray := if originB sc ho po no = true then (if no = 0 then placeT sc ho po else ⟨#[110, 117, 108, 108, 35]⟩ ++ decB no) else ⟨#[]⟩

set_option maxRecDepth 10000 in
set_option maxHeartbeats 400000 in
theorem specOriginOf_any (sc ho pa : ByteArray) (po : Int) (w : World) :
    Calls Tryd.prog 47 #[urlV sc ho pa po] w fun e w' => e = .returned (if urlB sc ho pa po = true then originV sc ho po 0 else originV ⟨#[]⟩ ⟨#[]⟩ 0 0) ∧ Below w.heap.size w w' := by
  have H1 := fun W => specUrlRight_any sc ho pa po W
  unfold urlV at H1 ⊢
  cases hu : urlB sc ho pa po with
  | true =>
    rw [hu] at H1
    rw [if_pos rfl]
    have G1 : Hid (∀ W, Calls Tryd.prog 26 #[.agg #[.string sc, .string ho, .int .i64 po, .string pa]] W fun e w' => e = .returned (.bool true) ∧ Below W.heap.size W w') := H1
    clear H1 hu
    go_enter Tryd.func47, Tryd.ntmps47
    go_wp2_with fail
    refine (G1.out _).mono ?_
    rintro e w1 ⟨rfl, hb⟩
    obtain ⟨hc, hf⟩ := bcell hb
    go_wp2
    refine bodyPost_ret (v := originV sc ho po 0) (by simp [originV, results, Tryd.results47, go_sem, hc]) rfl ⟨rfl, ?_⟩
    exact Below.setCell (Below.setCell (Below.setCell (Below.setCell ((((Below.refl _ _).alloc (Nat.le_refl _) _).alloc (by simp) _).trans (hb.mono (by simp; omega))) (by simp) _) (by simp) _) (by simp) _) (by simp) _
  | false =>
    rw [hu] at H1
    rw [if_neg (by simp)]
    have G1 : Hid (∀ W, Calls Tryd.prog 26 #[.agg #[.string sc, .string ho, .int .i64 po, .string pa]] W fun e w' => e = .returned (.bool false) ∧ Below W.heap.size W w') := H1
    clear H1 hu
    go_enter Tryd.func47, Tryd.ntmps47
    go_wp2_with fail
    refine (G1.out _).mono ?_
    rintro e w1 ⟨rfl, hb⟩
    obtain ⟨hc, hf⟩ := bcell hb
    go_wp2
    refine bodyPost_ret (v := originV ⟨#[]⟩ ⟨#[]⟩ 0 0) (by simp [originV, results, Tryd.results47, go_sem, hc]) rfl ⟨rfl, ?_⟩
    exact Below.setCell (Below.setCell (Below.setCell (Below.setCell ((((Below.refl _ _).alloc (Nat.le_refl _) _).alloc (by simp) _).trans (hb.mono (by simp; omega))) (by simp) _) (by simp) _) (by simp) _) (by simp) _
end Go.Proofs.YtclpamjgglfljaaDoor

/- The origin of a frame, as a plain function. -/
namespace Go.Proofs.YtclpamjgglfljaaDoor
open Go.RowKit

/-- an origin's fields -/
structure Og where
  sc : ByteArray
  ho : ByteArray
  po : Int
  no : Int
def ogV (o : Og) : Value := .agg #[.string o.sc, .string o.ho, .int .i64 o.po, .int .i64 o.no]
def ogNone : Og := ⟨⟨#[]⟩, ⟨#[]⟩, 0, 0⟩
/-- the origin of a url's fields -/
def ogUrl (sc ho pt : ByteArray) (po : Int) : Og := if urlB sc ho pt po = true then ⟨sc, ho, po, 0⟩ else ogNone
theorem ogUrl_V (sc ho pt : ByteArray) (po : Int) : (if urlB sc ho pt po = true then originV sc ho po 0 else originV ⟨#[]⟩ ⟨#[]⟩ 0 0) = ogV (ogUrl sc ho pt po) := by
  unfold ogUrl
  split <;> rfl
def ogF (f : Fr) : Og := if f.sb = true then ⟨⟨#[]⟩, ⟨#[]⟩, 0, f.id⟩ else ogUrl f.sc f.ho f.pt f.po
/-- the frame that the number leads to -/
def getF (L : List Fr) (id : Int) : Fr := atF L (whF L id).toNat
def hereF (L : List Fr) (id : Int) : Bool := decide (0 ≤ whF L id)
def orgF (L : List Fr) (id : Int) : Og := if (hereF L id && framesB L) = true then ogF (getF L id) else ogNone
theorem hereF_at {L : List Fr} {id : Int} (h : hereF L id = true) : (whF L id).toNat < L.length ∧ (whF L id) = ((whF L id).toNat : Int) := by
  unfold hereF at h
  rw [decide_eq_true_eq] at h
  rcases whF_cases L id with ⟨k, hk, e, -⟩ | ⟨e, -⟩
  · rw [e]; simp; exact hk
  · omega
end Go.Proofs.YtclpamjgglfljaaDoor

/- The tree of frames: a map from Ids to frames and what they lie in, told by the list; those around a frame, from it outward. -/
namespace Go.Proofs.YtclpamjgglfljaaDoor
open Go.RowKit Go.Maps

/-- how a branch in the map reads -/
def brV (f : Fr) (i : Int) : Value := .agg #[.int .i64 f.id, .int .i64 f.pa, .string f.sc, .string f.ho, .int .i64 f.po, .string f.pt, .bool f.sb, .bool f.fl, .int .i64 f.tc, .int .i64 i]
def brElem (v : Value) : Option (DataW (Fr × Int) × List MemPlace) :=
  match v with
  | .agg cs => (match cs.toList with
    | [.int .i64 a, .int .i64 b, .string c, .string d, .int .i64 e, .string f, .bool g, .bool h, .int .i64 i, .int .i64 j] => some (.held (⟨a, b, c, d, e, f, g, h, i⟩, j), [])
    | _ => none)
  | _ => none
theorem brElem_mk (f : Fr) (i : Int) : brElem (brV f i) = some (.held (f, i), []) := rfl
theorem brElem_inv {v : Value} {y : DataW (Fr × Int) × List MemPlace} (h : brElem v = some y) : ∃ (f : Fr) (i : Int), v = brV f i ∧ y = (.held (f, i), []) := by
  cases v
  case agg cs =>
    unfold brElem at h
    simp only at h
    split at h
    · rename_i a b c d e f g i j k e1
      refine ⟨⟨a, b, c, d, e, f, g, i, j⟩, k, ?_, (Option.some.inj h).symm⟩
      exact congrArg Value.agg (Array.toList_inj.1 e1)
    · cases h
  all_goals (unfold brElem at h; cases h)
theorem int9Keyed : Keyed Tryd.prog 2 := int_keyed Tryd.underlying2
theorem int9_wf {id : Int} (h1 : -9223372036854775808 ≤ id) (h2 : id ≤ 9223372036854775807) : (Lit.int .i64 id).wf = true := by
  have e1 : IntKind.i64.min = -9223372036854775808 := by decide
  have e2 : IntKind.i64.max = 9223372036854775807 := by decide
  simp [Lit.wf]; omega
theorem keyOf9 {id : Int} (h1 : -9223372036854775808 ≤ id) (h2 : id ≤ 9223372036854775807) : keyOf Tryd.prog 2 (.int .i64 id) = some (.int .i64 id) := keyOf_int_mk Tryd.underlying2 (int9_wf h1 h2)
theorem litInt_inj {a b : Int} (h : (Lit.int .i64 a) = Lit.int .i64 b) : a = b := by injection h
/-- Ids in their range, none twice -/
def idsF (L : List Fr) : Prop := ∀ j, j < L.length → (1 ≤ (atF L j).id ∧ (atF L j).id ≤ 1000000) ∧ ∀ i, i < j → (atF L i).id < (atF L j).id
theorem hereF_iff (L : List Fr) (id : Int) : hereF L id = true ↔ ∃ k, k < L.length ∧ (atF L k).id = id := by
  unfold hereF
  rw [decide_eq_true_iff]
  rcases whF_cases L id with ⟨k, hk, e, h, -⟩ | ⟨e, h⟩
  · rw [e]; exact ⟨fun _ => ⟨k, hk, h⟩, fun _ => by omega⟩
  · rw [e]; exact ⟨fun h' => by omega, fun ⟨k, hk, h'⟩ => absurd h' (h k hk)⟩
theorem getF_at {L : List Fr} (hi : idsF L) {k : Nat} (hk : k < L.length) : whF L (atF L k).id = (k : Int) ∧ getF L (atF L k).id = atF L k := by
  have e : whF L (atF L k).id = (k : Int) := whF_is hk rfl (fun j hj => by have := (hi k hk).2 j hj; omega)
  exact ⟨e, by unfold getF; rw [e]; rfl⟩
/-- block bm is a map of at most N branches, those of the list -/
def TreeIs (w : World) (bm N : Nat) (L : List Fr) : Prop :=
  ∃ D : DataW (Fr × Int), w.ownsMap Tryd.prog 2 brElem bm N D ∧ ∀ id : Int, (Maps.has D (.int .i64 id) = hereF L id) ∧ (hereF L id = true → ∀ zd, D.atKey (.int .i64 id) zd = .held (getF L id, (getF L id).pa))
theorem TreeIs.of_block {w w' : World} {bm N : Nat} {L : List Fr} (h : TreeIs w bm N L) (hb : w'.heap[bm]? = w.heap[bm]?) : TreeIs w' bm N L := by
  obtain ⟨D, ⟨es, clock, h0, h1⟩, h2⟩ := h
  exact ⟨D, ⟨es, clock, by rw [hb]; exact h0, h1⟩, h2⟩
theorem TreeIs.lt {w : World} {bm N : Nat} {L : List Fr} (h : TreeIs w bm N L) : bm < w.heap.size := by
  obtain ⟨D, h1, _⟩ := h; exact h1.lt
theorem TreeIs.below {w w' : World} {bm N : Nat} {L : List Fr} (h : TreeIs w bm N L) (hb : Below w.heap.size w w') : TreeIs w' bm N L := h.of_block (hb.block bm h.lt)
theorem TreeIs.mono {w : World} {bm N N' : Nat} {L : List Fr} (h : TreeIs w bm N L) (hN : N ≤ N') : TreeIs w bm N' L := by
  obtain ⟨D, h1, h2⟩ := h; exact ⟨D, h1.mono hN, h2⟩
theorem TreeIs.ne {w : World} {bm N b o : Nat} {v : Value} {L : List Fr} (h : TreeIs w bm N L) (hc : w.cell? ⟨b, o, none⟩ = some v) : b ≠ bm := by
  rintro rfl
  obtain ⟨D, ⟨es, clock, h0, _⟩, _⟩ := h
  simp [World.cell?, h0] at hc
theorem tree_made (w : World) : TreeIs (w.alloc (.map #[] 0)) w.heap.size 0 [] :=
  ⟨.map [], World.ownsMap_made w _ _ _, fun id => ⟨by rfl, fun h => by cases h⟩⟩
theorem take_ids {L : List Fr} (h : idsF L) (k : Nat) : idsF (L.take k) := by
  intro j hj
  have hj1 : j < L.length := by rw [List.length_take] at hj; omega
  have hjk : j < k := by rw [List.length_take] at hj; omega
  obtain ⟨h1, h2⟩ := h j hj1
  have e : ∀ i, i ≤ j → atF (L.take k) i = atF L i := fun i hi => by
    rw [atF_get (by rw [List.length_take]; omega), atF_get (by omega), List.getElem_take]
  rw [e j (Nat.le_refl _)]
  exact ⟨h1, fun i hi => by rw [e i (Nat.le_of_lt hi)]; exact h2 i hi⟩
theorem take_here {L : List Fr} {k : Nat} (hk : k ≤ L.length) (id : Int) : hereF (L.take k) id = true ↔ ∃ j, j < k ∧ (atF L j).id = id := by
  rw [hereF_iff]
  constructor
  · rintro ⟨j, hj, e⟩
    rw [List.length_take] at hj
    exact ⟨j, by omega, by rw [← e, atF_take hk (by omega)]⟩
  · rintro ⟨j, hj, e⟩
    exact ⟨j, by rw [List.length_take]; omega, by rw [atF_take hk hj]; exact e⟩
theorem take_get {L : List Fr} (hi : idsF L) {k j : Nat} (hk : k ≤ L.length) (hj : j < k) : getF (L.take k) (atF L j).id = atF L j := by
  have h := (getF_at (take_ids hi k) (k := j) (by rw [List.length_take]; omega)).2
  rw [atF_take hk hj] at h
  exact h
theorem tree_put {w' : World} {bm N : Nat} {L : List Fr} {D : DataW (Fr × Int)} {k : Nat} (hi : idsF L) (hk : k < L.length) (hD : IsMap D)
    (h2 : ∀ id : Int, (Maps.has D (.int .i64 id) = hereF (L.take k) id) ∧ (hereF (L.take k) id = true → ∀ zd, D.atKey (.int .i64 id) zd = .held (getF (L.take k) id, (getF (L.take k) id).pa)))
    (h1 : w'.ownsMap Tryd.prog 2 brElem bm N (D.put (.int .i64 (atF L k).id) (.held (atF L k, (atF L k).pa)))) : TreeIs w' bm N (L.take (k + 1)) := by
  refine ⟨_, h1, fun id => ?_⟩
  by_cases e : id = (atF L k).id
  · subst e
    have hh : hereF (L.take (k + 1)) (atF L k).id = true := (take_here (by omega) _).2 ⟨k, by omega, rfl⟩
    refine ⟨by rw [has_put_same hD (by trivial), hh], fun _ zd => ?_⟩
    rw [atKey_put_same hD (by trivial), take_get hi (by omega) (by omega)]
  · have hne : (Lit.int .i64 id) ≠ Lit.int .i64 (atF L k).id := fun h => e (litInt_inj h)
    have hh : hereF (L.take (k + 1)) id = hereF (L.take k) id := by
      rw [Bool.eq_iff_iff, take_here (by omega), take_here (by omega)]
      constructor
      · rintro ⟨j, hj, e'⟩
        by_cases ej : j = k
        · subst ej; exact absurd e'.symm e
        · exact ⟨j, by omega, e'⟩
      · rintro ⟨j, hj, e'⟩; exact ⟨j, by omega, e'⟩
    refine ⟨by rw [has_put_other hne, hh]; exact (h2 id).1, fun h zd => ?_⟩
    rw [hh] at h
    rw [atKey_put_other hne, (h2 id).2 h zd]
    obtain ⟨j, hj, rfl⟩ := (take_here (by omega) id).1 h
    rw [take_get hi (by omega) hj, take_get hi (by omega) (by omega)]
/-- of right frames -/
theorem ids_of {L : List Fr} (h : framesB L = true) : idsF L := by
  obtain ⟨h10, hok⟩ := framesB_parts h
  have step : ∀ j, j < L.length → (1 ≤ (atF L j).id ∧ (atF L j).id ≤ 1000000) := fun j hj => by
    have h1 := hok j hj
    have h2 := lastF_ge (L := L) (k := j) (by omega) (fun i hi => hok i (by omega))
    have h3 := okF_time h1
    unfold okF at h1
    simp only [Bool.and_eq_true, decide_eq_true_eq] at h1
    omega
  intro j hj
  refine ⟨step j hj, ?_⟩
  induction j with
  | zero => intro i hi; omega
  | succ m ih =>
    intro i hi
    have h1 := hok (m + 1) hj
    unfold okF at h1
    rw [lastF_succ (by omega)] at h1
    simp only [Bool.and_eq_true, decide_eq_true_eq] at h1
    by_cases e : i = m
    · subst e; exact h1.1.2
    · exact Int.lt_trans (ih (by omega) i (by omega)) h1.1.2
theorem parent_ahead {L : List Fr} (h : framesB L = true) {k : Nat} (hk : k < L.length) : whF L (atF L k).pa < (k : Int) := by
  have hi := ids_of h
  have h1 := (framesB_parts h).2 k hk
  unfold okF at h1
  simp only [Bool.and_eq_true] at h1
  have h2 := h1.2
  unfold holdF at h2
  rw [Bool.or_eq_true, beq_iff_eq, decide_eq_true_eq] at h2
  rcases h2 with h2 | h2
  · rw [h2, whF_no (fun j hj => by have := (hi j hj).1.1; omega)]; omega
  · rcases whF_cases (L.take k) (atF L k).pa with ⟨j, hj, e, e1, e2⟩ | ⟨e, -⟩
    · rw [List.length_take] at hj
      rw [atF_take (by omega) (by omega)] at e1
      rw [← e1, (getF_at hi (by omega)).1]; omega
    · omega
/-- those around a frame, from it outward -/
def outF (L : List Fr) : Nat → Int → List Fr
  | 0, _ => []
  | n + 1, id => if hereF L id = true then getF L id :: outF L n (getF L id).pa else []
theorem here_wh {L : List Fr} {id : Int} (h : hereF L id = true) : ∃ k, k < L.length ∧ whF L id = (k : Int) ∧ getF L id = atF L k ∧ (atF L k).id = id := by
  unfold hereF at h
  rw [decide_eq_true_eq] at h
  rcases whF_cases L id with ⟨k, hk, e, e1, -⟩ | ⟨e, -⟩
  · exact ⟨k, hk, e, by unfold getF; rw [e]; rfl, e1⟩
  · omega
theorem parent_less {L : List Fr} (h : framesB L = true) {id : Int} (hh : hereF L id = true) : whF L (getF L id).pa < whF L id := by
  obtain ⟨k, hk, e, e1, -⟩ := here_wh hh
  rw [e, e1]; exact parent_ahead h hk
theorem outF_more {L : List Fr} (h : framesB L = true) : ∀ (n : Nat) (id : Int), whF L id < n → outF L (n + 1) id = outF L n id
  | 0, id, hn => by
    have hh : hereF L id = false := by
      have := (fstF_range (fun f => f.id == id) L).1
      unfold hereF; exact decide_eq_false (by unfold whF at hn ⊢; omega)
    unfold outF; rw [hh]; rfl
  | n + 1, id, hn => by
    unfold outF
    cases hh : hereF L id with
    | false => rfl
    | true =>
      rw [if_pos rfl, if_pos rfl, outF_more h n _ (by have := parent_less h hh; omega)]
theorem outF_len {L : List Fr} : ∀ (n : Nat) (id : Int), (outF L n id).length ≤ n
  | 0, _ => Nat.le_refl _
  | n + 1, id => by
    unfold outF
    split
    · simp only [List.length_cons]; have := outF_len (L := L) n (getF L id).pa; omega
    · simp
/-- the whole way -/
def wayF (L : List Fr) (id : Int) : List Fr := outF L (L.length + 1) id
theorem wh_len (L : List Fr) (id : Int) : whF L id < (L.length : Int) := by
  rcases whF_cases L id with ⟨k, hk, e, -⟩ | ⟨e, -⟩ <;> rw [e] <;> omega
theorem wayF_here {L : List Fr} (h : framesB L = true) {id : Int} (hh : hereF L id = true) : wayF L id = getF L id :: wayF L (getF L id).pa := by
  unfold wayF
  have e : outF L (L.length + 1) id = if hereF L id = true then getF L id :: outF L L.length (getF L id).pa else [] := rfl
  rw [e, if_pos hh, outF_more h L.length (getF L id).pa (wh_len _ _)]
theorem wayF_none {L : List Fr} {id : Int} (hh : hereF L id = false) : wayF L id = [] := by
  unfold wayF outF; rw [hh]; rfl
theorem wayF_len {L : List Fr} (id : Int) : (wayF L id).length ≤ L.length + 1 := outF_len _ _
end Go.Proofs.YtclpamjgglfljaaDoor

/- The walk of the program's treeOf, and of the maker of the iterator. -/
namespace Go.Proofs.YtclpamjgglfljaaDoor
open Go.RowKit Go.Maps

set_option maxRecDepth 10000 in
set_option maxHeartbeats 8000000 in
theorem treeOf_any (v : Value) (L : List Fr) (B : Nat) (w : World) (hs : SliceF w B v L) (hL : framesB L = true) :
    Calls Tryd.prog 58 #[v] w fun e w' => ∃ bm, e = .returned (.map (some bm)) ∧ w.heap.size ≤ bm ∧ TreeIs w' bm 10 L ∧ Below w.heap.size w w' := by
  have h10 := (framesB_parts hL).1
  have hid := ids_of hL
  obtain ⟨⟨p, cap, rfl, hg⟩, -⟩ := hs
  have HG : Hid (0 < L.length → ∃ g, p = some ⟨g, 0, none⟩ ∧ g < w.heap.size ∧ ∀ j, j < L.length → ∀ o, o < 9 → w.cell? ⟨g, j * 9 + o, none⟩ = some (frC (atF L j) o)) := fun h0 => by
    obtain ⟨g, e, -, hgw, hc⟩ := hg h0
    exact ⟨g, e, hgw, fun j hj o ho => (hc j hj o ho).1⟩
  have HI : Hid (idsF L) := hid
  have hmm := @run_makeMap Tryd.prog
  have M2 : Hid (TreeIs (w.alloc (.map #[] 0)) w.heap.size 0 (L.take 0)) := tree_made w
  have B2 : Hid (Below w.heap.size w (w.alloc (.map #[] 0))) := (Below.refl _ _).alloc (Nat.le_refl _) _
  clear hg hid hL
  go_enter Tryd.func58, Tryd.ntmps58
  go_wp2
  clear hmm
  generalize hbm : w.heap.size = bm at *
  go_loopw [9] (fun i wr => ∃ k : Nat, k ≤ L.length ∧ i = .int .i64 k ∧ Hid (TreeIs wr bm k (L.take k)) ∧ Hid (Below bm w wr)) (fun i _ => L.length - (intOf i).toNat)
  case atStart => exact ⟨0, Nat.zero_le _, rfl, M2, B2⟩
  case round =>
    obtain ⟨k, hk, rfl, HM, HB⟩ := hrel
    by_cases hlt : k < L.length
    · obtain ⟨g, rfl, hgw, hc⟩ := HG.out (by omega)
      have hx : ∀ o, o < 9 → wr.cell? ⟨g, k * 9 + o, none⟩ = some (frC (atF L k) o) := fun o ho => by rw [HB.out.cell (p := ⟨g, k * 9 + o, none⟩) hgw]; exact hc k hlt o ho
      have c0 : wr.cell? ⟨g, k * 9, none⟩ = some (.int .i64 (atF L k).id) := hx 0 (by omega)
      have c1 : wr.cell? ⟨g, k * 9 + 1, none⟩ = some (.int .i64 (atF L k).pa) := hx 1 (by omega)
      have c2 : wr.cell? ⟨g, k * 9 + 2, none⟩ = some (.string (atF L k).sc) := hx 2 (by omega)
      have c3 : wr.cell? ⟨g, k * 9 + 3, none⟩ = some (.string (atF L k).ho) := hx 3 (by omega)
      have c4 : wr.cell? ⟨g, k * 9 + 4, none⟩ = some (.int .i64 (atF L k).po) := hx 4 (by omega)
      have c5 : wr.cell? ⟨g, k * 9 + 5, none⟩ = some (.string (atF L k).pt) := hx 5 (by omega)
      have c6 : wr.cell? ⟨g, k * 9 + 6, none⟩ = some (.bool (atF L k).sb) := hx 6 (by omega)
      have c7 : wr.cell? ⟨g, k * 9 + 7, none⟩ = some (.bool (atF L k).fl) := hx 7 (by omega)
      have c8 : wr.cell? ⟨g, k * 9 + 8, none⟩ = some (.int .i64 (atF L k).tc) := hx 8 (by omega)
      have k0 : (0 : Int) ≤ k := by omega
      have k1 : (k : Int) < L.length := by omega
      obtain ⟨D, hown, hD⟩ := HM.out
      have hkey := keyOf9 (id := (atF L k).id) (by have := (HI.out k hlt).1; omega) (by have := (HI.out k hlt).1; omega)
      have hP : ∀ w', w'.ownsMap Tryd.prog 2 brElem bm (k + 1) (D.put (.int .i64 (atF L k).id) (.held (atF L k, (atF L k).pa))) → TreeIs w' bm (k + 1) (L.take (k + 1)) := fun w' h => tree_put HI.out hlt hown.isMap hD h
      have HP : Hid (∀ w', w'.ownsMap Tryd.prog 2 brElem bm (k + 1) (D.put (.int .i64 (atF L k).id) (.held (atF L k, (atF L k).pa))) → TreeIs w' bm (k + 1) (L.take (k + 1))) := hP
      have HO : Hid (wr.ownsMap Tryd.prog 2 brElem bm k D) := hown
      clear hc hx hD HM hown hP HG HI
      generalize atF L k = y at *
      obtain ⟨yid, ypa, ysc, yho, ypo, ypt, ysb, yfl, ytc⟩ := y
      dsimp only at *
      have hel : brElem (.agg #[.int .i64 yid, .int .i64 ypa, .string ysc, .string yho, .int .i64 ypo, .string ypt, .bool ysb, .bool yfl, .int .i64 ytc, .int .i64 ypa]) = some (.held (⟨yid, ypa, ysc, yho, ypo, ypt, ysb, yfl, ytc⟩, ypa), []) := rfl
      go_wp2_with (at_mapUpdate; go_must (refine wpList_mapUpdate_own _ rfl _ _ _ 79 rfl 2 98 int9Keyed Tryd.underlying79 _ bm k D rfl (HO.out.alloc _) (by unfold maxLen; omega) _ _ _ rfl rfl hkey _ [] hel ?_); intro w3 hown3 hg3)
      have B3 : Hid (Below bm w w3) := (HB.out.alloc (by have := HB.out.size; omega) _).grown hg3 (by have := HB.out.size; simp; omega) (fun j hj => by have := Option.some.inj hj; omega)
      have M3 : Hid (TreeIs w3 bm (k + 1) (L.take (k + 1))) := HP.out _ hown3
      clear hown3 hg3 HP HO
      go_wp2
      go_roundw
      case rel => exact ⟨k + 1, by omega, by go_num, M3, B3⟩
      case measure => simp [intOf]; omega
    · obtain rfl : k = L.length := by omega
      have M4 : Hid (TreeIs wr bm 10 L) := by
        have := HM.out
        rw [List.take_length] at this
        exact this.mono h10
      go_wp2
      go_ret
      exact ⟨bm, rfl, Nat.le_of_eq hbm, M4.out, by rw [hbm]; exact HB.out⟩
set_option maxRecDepth 10000 in
theorem outward_any (bm : Nat) (id : Int) (w : World) :
    Calls Tryd.prog 59 #[.map (some bm), .int .i64 id] w fun e w' => e = .returned (.func (.func 76) #[] #[.pointer (some ⟨w.heap.size, 0, none⟩), .pointer (some ⟨w.heap.size + 1, 0, none⟩)]) ∧ w' = (w.alloc (.cells #[.map (some bm)] 79)).alloc (.cells #[.int .i64 id] 2) := by
  go_enter Tryd.func59, Tryd.ntmps59
  go_wp2
  go_ret
  exact ⟨rfl, rfl⟩
end Go.Proofs.YtclpamjgglfljaaDoor

/- The contract of the program's iterator: those around a frame, one by one, from it outward. Written by impltree1.py. -/
namespace Go.Proofs.YtclpamjgglfljaaDoor
open Go.RowKit Go.Maps Go.Shelf
attribute [local go_sem] Oper.semAt_some

/-- what a round keeps: all that lay below n₁ but for one block, and all cells -/
def KpF (row : Option Nat) (n₁ : Nat) (A B : World) : Prop := A.heap.size ≤ B.heap.size ∧ ∀ (k : Nat) (o : Obj), some k ≠ row → A.heap[k]? = some o → (k < n₁ ∨ o.isCells = true) → B.heap[k]? = some o
theorem KpF.refl (row : Option Nat) (n₁ : Nat) (A : World) : KpF row n₁ A A := ⟨Nat.le_refl _, fun _ _ _ h _ => h⟩
theorem KpF.trans {row : Option Nat} {n₁ : Nat} {A B C : World} (h : KpF row n₁ A B) (k : KpF row n₁ B C) : KpF row n₁ A C :=
  ⟨Nat.le_trans h.1 k.1, fun j o hj hA hor => k.2 j o hj (h.2 j o hj hA hor) hor⟩
theorem KpF.of_below {row : Option Nat} {n₁ : Nat} {A B : World} (h : Below A.heap.size A B) : KpF row n₁ A B :=
  ⟨h.size, fun k o _ hA _ => by rw [h.block k (Array.getElem?_eq_some_iff.1 hA).1]; exact hA⟩
theorem KpF.put {row : Option Nat} {n₁ n₂ : Nat} (hn : n₁ ≤ n₂) (W : World) (l : Nat) (o o' : Obj) (hl : n₂ ≤ l) (h : W.heap[l]? = some o) (hc : o.isCells = false) (_ : o.isWalk = false) : KpF row n₁ W (W.putObj l o') :=
  ⟨by simp, fun k o2 _ h2 hor => by
    by_cases e : k = l
    · subst e
      rw [h] at h2; cases h2
      rcases hor with hor | hor
      · omega
      · rw [hc] at hor; cases hor
    · rw [World.putObj_heap_other (fun e' => e e')]; exact h2⟩
theorem KpF.cell {row : Option Nat} {n₁ : Nat} {A B : World} (h : KpF row n₁ A B) {a : Addr} {v : Value} (hv : A.cell? a = some v) (hr : some a.block ≠ row) : B.cell? a = some v := by
  obtain ⟨o, ho, hc⟩ := cells_of_cell hv
  exact (World.cell?_of_block ((h.2 _ o hr ho (.inr hc)).trans ho.symm)).trans hv
theorem KpF.tree {row : Option Nat} {n₁ : Nat} {A B : World} (h : KpF row n₁ A B) {bm N : Nat} {L : List Fr} (hm : TreeIs A bm N L) (hb : bm < n₁) (hr : some bm ≠ row) : TreeIs B bm N L :=
  hm.of_block (by
    have hlt := hm.lt
    rw [h.2 bm A.heap[bm] hr (Array.getElem?_eq_getElem hlt) (.inl hb), Array.getElem?_eq_getElem hlt])
/-- how many are left -/
def leftF (L : List Fr) (b ok : Value) (w : World) : Nat :=
  match b, ok with
  | .pointer (some a), .bool true => (match w.cell? ⟨a.block, 0, none⟩ with
    | some (.int _ id) => (whF L id).toNat + 1
    | _ => 0)
  | _, _ => 0
theorem leftF_is {L : List Fr} {bb : Nat} {w : World} {id : Int} (h : w.cell? ⟨bb, 0, none⟩ = some (.int .i64 id)) : leftF L (.pointer (some ⟨bb, 0, none⟩)) (.bool true) w = (whF L id).toNat + 1 := by
  unfold leftF; simp only [h]
theorem leftF_end (L : List Fr) (b : Value) (w : World) : leftF L b (.bool false) w = 0 := by
  cases b <;> simp [leftF]
set_option maxRecDepth 100000 in
set_option maxHeartbeats 8000000 in
theorem outward1_in (n : Nat) (hn : 1 ≤ n) (l bt bi bm n₁ : Nat) (row : Option Nat) (L : List Fr) (hL : framesB L = true) (id : Int) (i1 : -9223372036854775808 ≤ id) (i2 : id ≤ 9223372036854775807) (J Jx : List Fr → World → Prop)
    (W : World) (hJ : AbidesFrom W.heap.size J)
    (hY : ∀ pre x W1, J pre W1 → pre.length < 11 → uF x = true → YieldAt Fence.wide (n - 1) Tryd.prog l #[frV x] W1 fun e W' =>
      (e = .returned (.bool true) ∧ J (pre ++ [x]) W' ∧ KpF row n₁ W1 W') ∨ (e = .returned (.bool false) ∧ Jx (pre ++ [x]) W'))
    (ht : W.cell? ⟨bt, 0, none⟩ = some (.map (some bm))) (hi : W.cell? ⟨bi, 0, none⟩ = some (.int .i64 id)) (hm : TreeIs W bm 10 L) (hbm : bm < n₁) (hbt : bt < n₁) (r1 : some bm ≠ row) (r2 : some bt ≠ row) (hn₁ : n₁ ≤ W.heap.size) (hrow : ∀ r, row = some r → r < n₁) (h0 : J [] W) :
    CallsIn Fence.wide n Tryd.prog 76 #[.func (.yield l) #[] #[], .pointer (some ⟨bt, 0, none⟩), .pointer (some ⟨bi, 0, none⟩)] W fun e W' => (∃ v, e = .returned v) ∧
      ((∃ ys, ys = wayF L id ∧ J ys W') ∨ (∃ pre, pre <+: wayF L id ∧ Jx pre W')) := by
  obtain ⟨D, hown, hD⟩ := hm
  have HX : Hid (∀ x i, D.atKey (.int .i64 id) (.held (frNone, 0)) = .held (x, i) → hereF L id = true → x = getF L id ∧ i = (getF L id).pa) := fun x i h1 h2 => by
    rw [(hD id).2 h2] at h1
    injection h1 with h1
    injection h1 with h1 h3
    exact ⟨h1.symm, h3.symm⟩
  have HH : Hid (Maps.has D (.int .i64 id) = hereF L id) := (hD id).1
  have HO : Hid (W.ownsMap Tryd.prog 2 brElem bm 10 D) := hown
  have HM : Hid (TreeIs W bm 10 L) := ⟨D, hown, hD⟩
  have hkey := keyOf9 (id := id) i1 i2
  have HT : Hid (W.cell? ⟨bt, 0, none⟩ = some (.map (some bm))) := ht
  have HJ : Hid (∀ s A o, W.heap.size ≤ A.heap.size → J s A → J s (A.alloc o)) := fun s A o _ h => hJ s A _ none h (World.grownBy_alloc A o none) (fun r e => by cases e)
  have hlen : L.length ≤ 10 := (framesB_parts hL).1
  have HL : Hid (framesB L = true) := hL
  have HJ0 : Hid (J [] W) := h0
  have HY : Hid (∀ pre x W1, J pre W1 → pre.length < 11 → uF x = true → YieldAt Fence.wide (n - 1) Tryd.prog l #[frV x] W1 fun e W' => (e = .returned (.bool true) ∧ J (pre ++ [x]) W' ∧ KpF row n₁ W1 W') ∨ (e = .returned (.bool false) ∧ Jx (pre ++ [x]) W')) := hY
  have HR : Hid ((some bm ≠ row ∧ some bt ≠ row) ∧ ∀ r, row = some r → r < n₁) := ⟨⟨r1, r2⟩, hrow⟩
  have HID : Hid (idsF L) := ids_of hL
  clear hown hD hY h0 hJ hL r1 r2 hrow
  refine callsIn_of_wp Tryd.func76 rfl trivial ?_ rfl
  simp only [Tryd.ntmps76, List.size_toArray, List.length_cons, List.length_nil, Nat.reduceAdd, Nat.reduceSub, Array.replicate_succ, Array.replicate_zero, List.push_toArray, List.append_toArray, List.nil_append, List.cons_append]
  gi_wp2_with (gi_at_lookup; refine wpListIn_lookup_own_ok _ rfl _ _ 79 rfl 2 98 int9Keyed Tryd.underlying79 brElem (Tryd.zeroValue98 _) (.held (frNone, 0)) [] rfl bm 10 D rfl HO.out _ _ rfl hkey ?_; intro v ps hv; obtain ⟨x, i, rfl, hc⟩ := brElem_inv hv; have hx := HX.out x i (congrArg Prod.fst hc); have HXX : Hid (hereF L id = true → x = getF L id ∧ i = (getF L id).pa) := hx; clear hc hv hx; obtain ⟨xid, xpa, xsc, xho, xpo, xpt, xsb, xfl, xtc⟩ := x; unfold brV; dsimp only; rw [HH.out])
  clear HX HH HO ht
  gi_loopw [4, 5] (fun b ok wr => ∃ (bb : Nat) (cid : Int) (pre : List Fr) (x : Fr) (i : Int), b = .pointer (some ⟨bb, 0, none⟩) ∧ ok = .bool (hereF L cid) ∧ Hid (n₁ ≤ bb) ∧
      Hid (∀ o v, [.int .i64 (x).id, .int .i64 (x).pa, .string (x).sc, .string (x).ho, .int .i64 (x).po, .string (x).pt, .bool (x).sb, .bool (x).fl, .int .i64 (x).tc, .int .i64 i][o]? = some v → wr.cell? ⟨bb, o, none⟩ = some v) ∧ Hid (hereF L cid = true → x = getF L cid ∧ i = (getF L cid).pa) ∧ Hid (wayF L id = pre ++ wayF L cid) ∧ Hid (J pre wr) ∧ Hid (KpF row n₁ W wr))
    (fun b ok wr => leftF L b ok wr)
  case atStart =>
    exact ⟨W.heap.size, id, [], ⟨xid, xpa, xsc, xho, xpo, xpt, xsb, xfl, xtc⟩, i, rfl, rfl, hn₁, fun o v h => by rw [World.cell?_alloc_new]; simpa using h, HXX, rfl, HJ.out _ _ _ (Nat.le_refl _) HJ0.out, KpF.of_below ((Below.refl _ _).alloc (Nat.le_refl _) _)⟩
  case round =>
    obtain ⟨bb, cid, pre, x, i, rfl, rfl, hbb, HC, HXX, HW, HJs, HK⟩ := hrel
    cases hh : hereF L cid with
    | false =>
      have HE : Hid (pre = wayF L id) := by show pre = _; rw [HW.out, wayF_none hh, List.append_nil]
      clear HXX HC
      gi_wp2
      go_end0
      exact ⟨⟨_, rfl⟩, .inl ⟨pre, HE.out, HJs.out⟩⟩
    | true =>
      obtain ⟨e1, e2⟩ := HXX.out hh
      subst e1 e2
      have hway := wayF_here HL.out hh
      have hpl : pre.length < 11 := by
        have h1 := wayF_len (L := L) id
        rw [HW.out, hway] at h1
        simp only [List.length_append, List.length_cons] at h1
        omega
      have HP : Hid (pre ++ [getF L cid] <+: wayF L id) := ⟨wayF L (getF L cid).pa, by rw [HW.out, hway]; simp⟩
      have HN : Hid (wayF L id = (pre ++ [getF L cid]) ++ wayF L (getF L cid).pa) := by show wayF L id = _; rw [HW.out, hway]; simp
      obtain ⟨k, hk, ew, eg, ei⟩ := here_wh hh
      have hkx : (getF L cid).id = cid := by rw [eg]; exact ei
      have HLT : Hid (whF L (getF L cid).pa < whF L (getF L cid).id) := by show _ < _; rw [hkx]; exact parent_less HL.out hh
      have hpar : -9223372036854775808 ≤ (getF L cid).pa ∧ (getF L cid).pa ≤ 9223372036854775807 := by
        rw [eg]
        have hok := (framesB_parts HL.out).2 k hk
        unfold okF holdF at hok
        simp only [Bool.and_eq_true, Bool.or_eq_true, beq_iff_eq, decide_eq_true_eq] at hok
        rcases hok.2 with h | h
        · rw [h]; omega
        · rcases whF_cases (L.take k) (atF L k).pa with ⟨j, hj, -, e1, -⟩ | ⟨e, -⟩
          · rw [List.length_take] at hj
            rw [atF_take (by omega) (by omega)] at e1
            have := (HID.out j (by omega)).1
            omega
          · omega
      have hu : uF (getF L cid) = true := by
        rw [eg]
        have hok := (framesB_parts HL.out).2 k hk
        unfold okF frB at hok
        simp only [Bool.and_eq_true] at hok
        exact hok.1.1.1.1.2
      have hkey2 := keyOf9 (id := (getF L cid).pa) hpar.1 hpar.2
      obtain ⟨fn, tmps, assign, body, hy, hR⟩ := HY.out pre (getF L cid) wr HJs.out hpl hu
      unfold frV at hy
      (try dsimp only at hy)
      have c0 : wr.cell? ⟨bb, 0, none⟩ = some (.int .i64 (getF L cid).id) := HC.out 0 _ rfl
      have c1 : wr.cell? ⟨bb, 1, none⟩ = some (.int .i64 (getF L cid).pa) := HC.out 1 _ rfl
      have c2 : wr.cell? ⟨bb, 2, none⟩ = some (.string (getF L cid).sc) := HC.out 2 _ rfl
      have c3 : wr.cell? ⟨bb, 3, none⟩ = some (.string (getF L cid).ho) := HC.out 3 _ rfl
      have c4 : wr.cell? ⟨bb, 4, none⟩ = some (.int .i64 (getF L cid).po) := HC.out 4 _ rfl
      have c5 : wr.cell? ⟨bb, 5, none⟩ = some (.string (getF L cid).pt) := HC.out 5 _ rfl
      have c6 : wr.cell? ⟨bb, 6, none⟩ = some (.bool (getF L cid).sb) := HC.out 6 _ rfl
      have c7 : wr.cell? ⟨bb, 7, none⟩ = some (.bool (getF L cid).fl) := HC.out 7 _ rfl
      have c8 : wr.cell? ⟨bb, 8, none⟩ = some (.int .i64 (getF L cid).tc) := HC.out 8 _ rfl
      have c9 : wr.cell? ⟨bb, 9, none⟩ = some (.int .i64 (getF L cid).pa) := HC.out 9 _ rfl
      have HK3 : Hid (∀ W3, KpF row n₁ wr W3 → W3.cell? ⟨bt, 0, none⟩ = some (.map (some bm)) ∧ TreeIs W3 bm 10 L) := fun W3 h3 =>
        have hk := HK.out.trans h3
        ⟨hk.cell HT.out HR.out.1.2, hk.tree HM.out hbm HR.out.1.1⟩
      have HC3 : Hid (∀ W3, KpF row n₁ wr W3 → ∀ o v, wr.cell? ⟨bb, o, none⟩ = some v → W3.cell? ⟨bb, o, none⟩ = some v) := fun W3 h3 o v hv => h3.cell hv (fun e => by have := HR.out.2 bb e.symm; have := hbb.out; omega)
      have HME : Hid (leftF L (.pointer (some ⟨bb, 0, none⟩)) (.bool true) wr = (whF L (getF L cid).id).toNat + 1) := leftF_is c0
      clear HXX HC HW hway hpl eg ei hkx ew hk hu
      have HGP : Hid (∀ D : DataW (Fr × Int), (∀ id : Int, (Maps.has D (.int .i64 id) = hereF L id) ∧ (hereF L id = true → ∀ zd, D.atKey (.int .i64 id) zd = .held (getF L id, (getF L id).pa))) → Maps.has D (.int .i64 (getF L cid).pa) = hereF L (getF L cid).pa ∧ ∀ x i, D.atKey (.int .i64 (getF L cid).pa) (.held (frNone, 0)) = .held (x, i) → hereF L (getF L cid).pa = true → x = getF L (getF L cid).pa ∧ i = (getF L (getF L cid).pa).pa) := fun D hD => ⟨(hD _).1, fun x i h1 h2 => by
        rw [(hD _).2 h2] at h1
        injection h1 with h1
        injection h1 with h1 h3
        exact ⟨h1.symm, h3.symm⟩⟩
      generalize getF L cid = y at *
      obtain ⟨yid, ypa, ysc, yho, ypo, ypt, ysb, yfl, ytc⟩ := y
      dsimp only at *
      gi_wp2
      refine hR.mono ?_
      rintro e W3 (⟨rfl, hJ3, hk3⟩ | ⟨rfl, hJx3⟩)
      · obtain ⟨ht3, hm3⟩ := HK3.out W3 hk3
        obtain ⟨D3, hown3, hD3⟩ := hm3
        have HO3 : Hid (W3.ownsMap Tryd.prog 2 brElem bm 10 D3) := hown3
        obtain ⟨hh3, hx3⟩ := HGP.out D3 hD3
        have HH : Hid (Maps.has D3 (.int .i64 ypa) = hereF L ypa) := hh3
        have HX : Hid (∀ x i, D3.atKey (.int .i64 ypa) (.held (frNone, 0)) = .held (x, i) → hereF L ypa = true → x = getF L ypa ∧ i = (getF L ypa).pa) := hx3
        have HJ3 : Hid (J (pre ++ [⟨yid, ypa, ysc, yho, ypo, ypt, ysb, yfl, ytc⟩]) W3) := hJ3
        have HKK : Hid (KpF row n₁ W W3) := HK.out.trans hk3
        have hbt3 : bt < W3.heap.size := Nat.lt_of_lt_of_le hbt (Nat.le_trans hn₁ HKK.out.1)
        have d0 := HC3.out W3 hk3 0 _ c0
        have d1 := HC3.out W3 hk3 1 _ c1
        have d2 := HC3.out W3 hk3 2 _ c2
        have d3 := HC3.out W3 hk3 3 _ c3
        have d4 := HC3.out W3 hk3 4 _ c4
        have d5 := HC3.out W3 hk3 5 _ c5
        have d6 := HC3.out W3 hk3 6 _ c6
        have d7 := HC3.out W3 hk3 7 _ c7
        have d8 := HC3.out W3 hk3 8 _ c8
        have d9 := HC3.out W3 hk3 9 _ c9
        clear hown3 hD3 hh3 hx3 hJ3 hk3 HC3 HK3 HGP c0 c1 c2 c3 c4 c5 c6 c7 c8 c9 hR
        gi_wp2_with (gi_at_lookup; refine wpListIn_lookup_own_ok _ rfl _ _ 79 rfl 2 98 int9Keyed Tryd.underlying79 brElem (Tryd.zeroValue98 _) (.held (frNone, 0)) [] rfl bm 10 D3 rfl (HO3.out.alloc _) _ _ rfl hkey2 ?_; intro v ps hv; obtain ⟨x, i, rfl, hc⟩ := brElem_inv hv; have hx := HX.out x i (congrArg Prod.fst hc); have HXX : Hid (hereF L ypa = true → x = getF L ypa ∧ i = (getF L ypa).pa) := hx; clear hc hv hx; obtain ⟨xid, xpa, xsc, xho, xpo, xpt, xsb, xfl, xtc⟩ := x; unfold brV; dsimp only; rw [HH.out])
        go_roundw
        case rel => exact ⟨W3.heap.size, ypa, _, ⟨xid, xpa, xsc, xho, xpo, xpt, xsb, xfl, xtc⟩, i, rfl, rfl, Nat.le_trans hn₁ HKK.out.1, fun o v h => by rw [World.cell?_alloc_new]; simpa using h, HXX, HN.out, HJ.out _ _ _ HKK.out.1 HJ3.out, HKK.out.trans (KpF.of_below ((Below.refl _ _).alloc (Nat.le_refl _) _))⟩
        case measure =>
          rw [HME.out]
          cases hp : hereF L ypa with
          | false => rw [leftF_end]; omega
          | true =>
            rw [leftF_is (by rw [World.cell?_alloc_new]; rfl)]
            obtain ⟨e1, -⟩ := HXX.out hp
            obtain ⟨k2, -, ew2, eg2, ei2⟩ := here_wh hp
            have h1 : xid = ypa := by
              have := congrArg Fr.id e1
              rw [eg2, ei2] at this
              exact this
            rw [h1]
            have := HLT.out
            omega
      · gi_wp2
        refine bodyPost_ret (results_none rfl _ _ _) rfl ?_
        exact ⟨⟨_, rfl⟩, .inr ⟨_, HP.out, hJx3⟩⟩
end Go.Proofs.YtclpamjgglfljaaDoor

/- Where an owned row lies. -/
namespace Go.Proofs.YtclpamjgglfljaaDoor
open Go.RowKit
theorem own_base {w : World} {B n sz : Nat} {e : TypeId} {v : Value} {xs : List Value} (h : w.ownsRow B e sz v n xs) : ∀ j, v.ownBlock = some j → B ≤ j := by
  intro j hj
  obtain ⟨_, ⟨rfl, _⟩ | ⟨g, cap, cur, rfl, hB, _⟩⟩ := h
  · cases hj
  · have : g = j := Option.some.inj hj
    omega
end Go.Proofs.YtclpamjgglfljaaDoor

/- Rows of frames that a call owns. Written by rowsown.py. -/
namespace Go.Proofs.YtclpamjgglfljaaDoor
open Go.RowKit

/-- the cells of one -/
def frVals (c : Fr) : List Value := [.int .i64 c.id, .int .i64 c.pa, .string c.sc, .string c.ho, .int .i64 c.po, .string c.pt, .bool c.sb, .bool c.fl, .int .i64 c.tc]
def frCells : List Fr → List Value
  | [] => []
  | c :: L => frVals c ++ frCells L
theorem frCells_snoc (L : List Fr) (c : Fr) : frCells L ++ frVals c = frCells (L ++ [c]) := by
  induction L with
  | nil => simp [frCells]
  | cons q L ih => simp only [frCells, List.cons_append, List.append_assoc, ih]
theorem frCells_len (L : List Fr) : (frCells L).length = L.length * 9 := by
  induction L with
  | nil => rfl
  | cons q L ih => simp only [frCells, List.length_append, ih, List.length_cons]; show 9 + _ = _; omega
theorem frVals_at (c : Fr) : ∀ o, o < 9 → (frVals c)[o]? = some (frC c o)
  | 0, _ => rfl
  | 1, _ => rfl
  | 2, _ => rfl
  | 3, _ => rfl
  | 4, _ => rfl
  | 5, _ => rfl
  | 6, _ => rfl
  | 7, _ => rfl
  | 8, _ => rfl
theorem frCells_at : ∀ (L : List Fr) (j : Nat), j < L.length → ∀ o, o < 9 → (frCells L)[j * 9 + o]? = some (frR L j o)
  | [], j, h, _, _ => by simp at h
  | c :: L, 0, _, o, ho => by
    rw [Nat.zero_mul, Nat.zero_add, frCells, List.getElem?_append_left (by show o < 9; exact ho), frVals_at c o ho]
    rfl
  | c :: L, j + 1, h, o, ho => by
    have ih := frCells_at L j (by simpa using h) o ho
    have hl : (frVals c).length = 9 := rfl
    rw [frCells, List.getElem?_append_right (by rw [hl]; omega), hl, show (j + 1) * 9 + o - 9 = j * 9 + o by omega, ih]
    simp [frR, atF]
theorem sliceF_of_own {w : World} {B : Nat} {t : TypeId} {v : Value} {L : List Fr} (h : w.ownsRow B t 9 v L.length (frCells L)) : SliceF w B v L := by
  refine ⟨sliceR_of_own h (frCells_at L), ?_⟩
  obtain ⟨_, ⟨rfl, h0⟩ | ⟨g, cap, cur, rfl, _, _, hc, _⟩⟩ := h
  · exact ⟨none, 0, by rw [h0], by omega, fun _ => rfl⟩
  · exact ⟨_, cap, rfl, hc, fun h => by cases h⟩
theorem sliceF_none (w : World) (B : Nat) : SliceF w B (.slice none 0 0) [] := ⟨sliceR_none _ _ _ _ _ _, none, 0, rfl, Nat.le_refl _, fun _ => rfl⟩
theorem cell_Fr (w : World) (c : Fr) (t : TypeId) : ∀ j u, (frVals c)[j]? = some u → (w.alloc (.cells #[.int .i64 c.id, .int .i64 c.pa, .string c.sc, .string c.ho, .int .i64 c.po, .string c.pt, .bool c.sb, .bool c.fl, .int .i64 c.tc] t)).cell? ((⟨w.heap.size, 0, none⟩ : Addr).add j) = some u := by
  intro j u h
  have e : (⟨w.heap.size, 0, none⟩ : Addr).add j = ⟨w.heap.size, j, none⟩ := by unfold Addr.add; split <;> simp_all
  rw [e, World.cell?_alloc_new, ← Array.getElem?_toList]
  exact h
theorem one_Fr (c : Fr) : ∀ v ∈ frVals c, v.oneCell' = true := by
  intro u hu
  simp only [frVals, List.mem_cons, List.not_mem_nil, or_false] at hu
  rcases hu with rfl | rfl | rfl | rfl | rfl | rfl | rfl | rfl | rfl <;> rfl
/-- a row of them, kept while other blocks are written -/
theorem ownF_keep {w w' : World} {B n sz : Nat} {row : Option Nat} {e : TypeId} {v : Value} {xs : List Value} (h : w.ownsRow B e sz v n xs) (hg : w.grownBy w' row) (hne : ∀ g, v.ownBlock = some g → row ≠ some g) : w'.ownsRow B e sz v n xs := by
  obtain ⟨hl, h0 | ⟨g, cap, cur, rfl, hbg, hh, r⟩⟩ := h
  · exact ⟨hl, .inl h0⟩
  · have hgl : g < w.heap.size := (Array.getElem?_eq_some_iff.mp hh).1
    exact ⟨hl, .inr ⟨g, cap, cur, rfl, hbg, by rw [hg.block g hgl (fun e => hne g rfl e.symm)]; exact hh, r⟩⟩
end Go.Proofs.YtclpamjgglfljaaDoor

/- The walk of the program's topOf over the iterator. Written by impltop.py. -/
namespace Go.Proofs.YtclpamjgglfljaaDoor
open Go.RowKit Go.Maps Go.Shelf
attribute [local go_sem] Oper.semAt_some

theorem BoxV.kept {W W' : World} {b : Nat} {vs : List Value} {row : Option Nat} (h : BoxV W b vs) (hg : W.grownBy W' row) (hrow : ∀ r, row = some r → ∃ o : Obj, W.heap[r]? = some o ∧ o.isCells = false) : BoxV W' b vs :=
  ⟨Nat.lt_of_lt_of_le h.1 hg.size, fun _ _ e => ⟨cell_kept (h.at e) hg hrow, (frozen_kept (h.at e) hg hrow).trans (h.free e)⟩⟩
/-- the iterator's contract, as the loop's law wants it -/
theorem outward_stops (n : Nat) (hn : 1 ≤ n) (bt bi bm : Nat) (row : Option Nat) (L : List Fr) (hL : framesB L = true) (id : Int) (i1 : -9223372036854775808 ≤ id) (i2 : id ≤ 9223372036854775807) (w : World)
    (ht : w.cell? ⟨bt, 0, none⟩ = some (.map (some bm))) (hi : w.cell? ⟨bi, 0, none⟩ = some (.int .i64 id)) (hm : TreeIs w bm 10 L) (hbt : bt < w.heap.size) (hbi : bi < w.heap.size) (r1 : some bm ≠ row) (r2 : some bt ≠ row) (hrow : ∀ r, row = some r → r < w.heap.size) :
    SeqStopsK Fence.wide n Tryd.prog 76 #[.pointer (some ⟨bt, 0, none⟩), .pointer (some ⟨bi, 0, none⟩)] (fun x : Fr => #[frV x]) (KpF row w.heap.size) (fun ys => ys = wayF L id) (fun pre => pre <+: wayF L id) 11 w :=
  fun l J Jx W hW hJ _ hY h0 => outward1_in n hn l bt bi bm w.heap.size row L hL id i1 i2 J Jx W hJ (fun pre x W1 a b _ => hY pre x W1 a b) ((hW.cell (p := ⟨bt, 0, none⟩) hbt).trans ht) ((hW.cell (p := ⟨bi, 0, none⟩) hbi).trans hi) (hm.of_block (hW.block bm hm.lt)) hm.lt hbt r1 r2 hW.size hrow h0
theorem BoxV.set_other {w : World} {b g o : Nat} {vs : List Value} {v : Value} (h : BoxV w b vs) (hne : g ≠ b) : BoxV (w.setCell ⟨g, o, none⟩ v) b vs :=
  h.of_block (Below.heap_setCell _ _ _ _ (fun e => hne (by first | exact e | exact e.symm))) (by simp [World.setCell])
theorem BoxV.set {w : World} {b : Nat} {vs : List Value} (h : BoxV w b vs) (i : Nat) (hi : i < vs.length) (v : Value) : BoxV (w.setCell ⟨b, i, none⟩ v) b (vs.set i v) := by
  refine ⟨by simpa [World.setCell] using h.1, fun j u e => ?_⟩
  have hf : ∃ u', vs[j]? = some u' := by
    by_cases hj : j = i
    · subst hj; exact ⟨_, List.getElem?_eq_getElem hi⟩
    · rw [List.getElem?_set_ne (fun e' => hj e'.symm)] at e; exact ⟨u, e⟩
  obtain ⟨u', hu'⟩ := hf
  refine ⟨?_, (World.frozen?_setCell _ _ _ _).trans (h.free hu')⟩
  by_cases hj : j = i
  · subst hj
    rw [List.getElem?_set_self hi] at e
    obtain rfl := Option.some.inj e
    exact World.cell?_setCell_same _ _ _ (h.at hu')
  · rw [List.getElem?_set_ne (fun e' => hj e'.symm)] at e
    rw [World.cell?_setCell_other _ _ _ _ (fun e' => hj (by injection e' with _ e'; exact e'.symm))]
    exact h.at e
theorem KpF.set {b n₁ o : Nat} {A B : World} {v : Value} (h : KpF (some b) n₁ A B) : KpF (some b) n₁ A (B.setCell ⟨b, o, none⟩ v) :=
  ⟨by simpa [World.setCell] using h.1, fun k q hk hA hor => by
    have := h.2 k q hk hA hor
    rw [Below.heap_setCell _ _ _ _ (fun e => hk (by rw [show k = b from by first | exact e | exact e.symm]))]
    exact this⟩
/-- the same for rounds that are told that the url is right -/
theorem outward_stopsR (n : Nat) (hn : 1 ≤ n) (bt bi bm : Nat) (row : Option Nat) (L : List Fr) (hL : framesB L = true) (id : Int) (i1 : -9223372036854775808 ≤ id) (i2 : id ≤ 9223372036854775807) (w : World)
    (ht : w.cell? ⟨bt, 0, none⟩ = some (.map (some bm))) (hi : w.cell? ⟨bi, 0, none⟩ = some (.int .i64 id)) (hm : TreeIs w bm 10 L) (hbt : bt < w.heap.size) (hbi : bi < w.heap.size) (r1 : some bm ≠ row) (r2 : some bt ≠ row) (hrow : ∀ r, row = some r → r < w.heap.size) :
    SeqStopsK Fence.wide n Tryd.prog 76 #[.pointer (some ⟨bt, 0, none⟩), .pointer (some ⟨bi, 0, none⟩)] (fun x : { x : Fr // uF x = true } => #[frV x.1]) (KpF row w.heap.size) (fun ys => ys.map Subtype.val = wayF L id) (fun pre => pre.map Subtype.val <+: wayF L id) 11 w :=
  fun l J Jx W hW hJ _ hY h0 => by
    refine (outward1_in n hn l bt bi bm w.heap.size row L hL id i1 i2 (fun ys W => ∃ zs : List { x : Fr // uF x = true }, zs.map Subtype.val = ys ∧ J zs W) (fun ys W => ∃ zs : List { x : Fr // uF x = true }, zs.map Subtype.val = ys ∧ Jx zs W) W
      (fun s X Y r h hg hr => by obtain ⟨zs, e, hj⟩ := h; exact ⟨zs, e, hJ zs X Y r hj hg hr⟩)
      (fun pre x W1 h hlen hu => by
        obtain ⟨zs, rfl, hj⟩ := h
        refine (hY zs ⟨x, hu⟩ W1 hj (by simpa using hlen)).mono ?_
        rintro e W' (⟨he, h1, h2⟩ | ⟨he, h1⟩)
        · exact .inl ⟨he, ⟨zs ++ [⟨x, hu⟩], by simp, h1⟩, h2⟩
        · exact .inr ⟨he, ⟨zs ++ [⟨x, hu⟩], by simp, h1⟩⟩)
      ((hW.cell (p := ⟨bt, 0, none⟩) hbt).trans ht) ((hW.cell (p := ⟨bi, 0, none⟩) hbi).trans hi) (hm.of_block (hW.block bm hm.lt)) hm.lt hbt r1 r2 hW.size hrow ⟨[], rfl, h0⟩).mono ?_
    rintro e W' ⟨he, ⟨ys, rfl, zs, hz, hj⟩ | ⟨pre, hp, zs, rfl, hj⟩⟩
    · exact ⟨he, .inl ⟨zs, hz, hj⟩⟩
    · exact ⟨he, .inr ⟨zs, hp, hj⟩⟩
end Go.Proofs.YtclpamjgglfljaaDoor

/- The walk of together: two texts put together in new memory. -/
namespace Go.Proofs.YtclpamjgglfljaaDoor
open Go.RowKit


set_option maxRecDepth 10000 in
set_option maxHeartbeats 400000 in
theorem together_full (x y : ByteArray) (w : World) (hz : x.size + y.size ≤ 1000000) (hy : ¬ y = ByteArray.empty) :
    Calls Tryd.prog 78 #[.string x, .string y] w fun e w' => e = .returned (.string (x ++ y)) ∧ Below w.heap.size w w' := by
  obtain ⟨w1, Z, hmk, HG1, hZ, hs1, hb1⟩ := make_row (P := Tryd.prog) w 87 5 _ Tryd.underlying87 infoU8 ((x.size : Int) + (y.size : Int)) (x.size + y.size) (by omega) (by omega)
  go_enter Tryd.func78, Tryd.ntmps78
  go_wp2_with fail
  obtain ⟨w2, hc2, HG2, hs2, hB2⟩ := copy_text (P := Tryd.prog) w1 87 9 3 5 Tryd.underlying87 sizeU8 (some ⟨w.heap.size, 0, none⟩) (x.size + y.size) (x.size + y.size) x (by omega) w.heap.size 0 Z _ HG1 (fun _ => rfl) (by omega)
  have hb2 := hB2 _ _ hb1 (Nat.le_refl _)
  rw [hc2]
  clear hc2 hmk hB2 HG1 hb1
  go_wp2_with fail
  have hl2 : (splice Z 0 (Lib.byteCells x.data.toList)).length = x.size + y.size := by rw [length_splice _ _ _ (by rw [len_cells]; omega), hZ]
  obtain ⟨w3, hc3, HG3, hs3, hB3⟩ := copy_text (P := Tryd.prog) w2 87 9 3 5 Tryd.underlying87 sizeU8 (some ⟨w.heap.size, x.size, none⟩) y.size y.size y (by omega) w.heap.size x.size _ _ HG2 (fun _ => rfl) (by omega)
  have hb3 := hB3 _ _ hb2 (Nat.le_refl _)
  have HG4 : RowAt w3 w.heap.size 5 (Lib.byteCells (x.data.toList ++ y.data.toList) ++ []) := by
    have e := splice_two Z (Lib.byteCells x.data.toList) (Lib.byteCells y.data.toList) (by rw [len_cells, len_cells]; exact hZ)
    rw [len_cells] at e
    rw [e, ← byteCells_append, ← List.append_nil (Lib.byteCells _)] at HG3
    exact HG3
  rw [hc3]
  clear hc3 hB3 HG2 HG3 hb2 hl2
  go_wp2_with fail
  rw [text_of_row (P := Tryd.prog) w3 87 9 5 Tryd.underlying87 Tryd.underlying5 Tryd.underlying9 w.heap.size (x.size + y.size) (x.size + y.size) 5 _ _ HG4 (by rw [List.length_append, ← Lib.size_eq, ← Lib.size_eq])]
  go_wp2
  go_ret
  exact ⟨ret_text (text_append x y), hb3⟩

set_option maxRecDepth 10000 in
set_option maxHeartbeats 400000 in
theorem together_empty (x : ByteArray) (w : World) (hz : x.size ≤ 1000000) :
    Calls Tryd.prog 78 #[.string x, .string ByteArray.empty] w fun e w' => e = .returned (.string x) ∧ Below w.heap.size w w' := by
  obtain ⟨w1, Z, hmk, HG1, hZ, hs1, hb1⟩ := make_row (P := Tryd.prog) w 87 5 _ Tryd.underlying87 infoU8 (x.size : Int) x.size (by omega) (by omega)
  go_enter Tryd.func78, Tryd.ntmps78
  go_wp2_with fail
  obtain ⟨w2, hc2, HG2, hs2, hB2⟩ := copy_text (P := Tryd.prog) w1 87 9 3 5 Tryd.underlying87 sizeU8 (some ⟨w.heap.size, 0, none⟩) x.size x.size x (by omega) w.heap.size 0 Z _ HG1 (fun _ => rfl) (by omega)
  have hb2 := hB2 _ _ hb1 (Nat.le_refl _)
  rw [hc2]
  clear hc2 hmk hB2 HG1 hb1
  go_wp2_with fail
  have HG4 : RowAt w2 w.heap.size 5 (Lib.byteCells x.data.toList ++ []) := by
    have e : splice Z 0 (Lib.byteCells x.data.toList) = Lib.byteCells x.data.toList ++ [] := by
      unfold splice
      rw [List.drop_eq_nil_of_le (by rw [len_cells]; omega)]
      simp
    rw [e] at HG2
    exact HG2
  rw [Lib.run_copy_empty_string (P := Tryd.prog) w2 87 9 3 5 (some ⟨w.heap.size, 0, none⟩) 0 0 ByteArray.empty Tryd.underlying87 (by rw [Option.isSome_iff_exists]; exact ⟨1, sizeU8⟩) rfl]
  go_wp2_with fail
  rw [text_of_row (P := Tryd.prog) w2 87 9 5 Tryd.underlying87 Tryd.underlying5 Tryd.underlying9 w.heap.size x.size x.size 5 _ _ HG4 (by rw [← Lib.size_eq])]
  go_wp2
  go_ret
  exact ⟨rfl, hb2⟩
theorem together_any (x y : ByteArray) (w : World) (hz : x.size + y.size ≤ 1000000) :
    Calls Tryd.prog 78 #[.string x, .string y] w fun e w' => e = .returned (.string (x ++ y)) ∧ Below w.heap.size w w' := by
  by_cases hy : y = ByteArray.empty
  · subst hy
    rw [ByteArray.append_empty]
    exact together_empty x w (by omega)
  · exact together_full x y w hz hy

end Go.Proofs.YtclpamjgglfljaaDoor

/- The move of a walk through a drawn region, with what the kernel decides left to it. -/
namespace Go.Proofs.YtclpamjgglfljaaDoor
open Go.RowKit

/-- an operation that is carried out is taken first -/
theorem takeY {P : Program} {ops : Array Oper} {Q : Exit → Act → World → Prop} {md : Region.Mode} {S : World → Prop} {i : Nat} {oi : Oper} {v : Value} {fuel : Nat} {listed : Array Bool} {a : Act} {w : World}
    (hi : ops[i]? = some oi) (hy : ∀ w, S w → (execOp a.eval oi).run P w = .ok (.value v) w)
    (h : wpAnyH P md ops Q S fuel (listed.setIfInBounds i true) (a.put oi.dst v) w) (hS : S w := by assumption)
    (hs : Region.noSelect ops = true := by kernel_rfl) (hf : Region.free md ops listed i = true := by kernel_rfl) (hr : (Region.ready md ops listed).contains i = true := by kernel_rfl)
    (hw : Region.wanted oi (yielded ops a.tmps) = true := by rfl) (hQ : ∀ c a w, Q (.panic c) (a.put oi.dst v) w → Q (.panic c) a w := by exact fun _ _ _ h => h) : wpAnyH P md ops Q S (fuel + 1) listed a w :=
  wpAnyH_take hi hs hf hr hQ (Or.inl ⟨hw, hy⟩) hS h
/-- one that is passed over is taken first -/
theorem takeN {P : Program} {ops : Array Oper} {Q : Exit → Act → World → Prop} {md : Region.Mode} {S : World → Prop} {i : Nat} {oi : Oper} {fuel : Nat} {listed : Array Bool} {a : Act} {w : World}
    (hi : ops[i]? = some oi)
    (h : wpAnyH P md ops Q S fuel (listed.setIfInBounds i true) (a.put oi.dst undef) w) (hS : S w := by assumption)
    (hs : Region.noSelect ops = true := by kernel_rfl) (hf : Region.free md ops listed i = true := by kernel_rfl) (hr : (Region.ready md ops listed).contains i = true := by kernel_rfl)
    (hw : Region.wanted oi (yielded ops a.tmps) = false := by rfl) (hQ : ∀ c a w, Q (.panic c) (a.put oi.dst undef) w → Q (.panic c) a w := by exact fun _ _ _ h => h) : wpAnyH P md ops Q S (fuel + 1) listed a w :=
  wpAnyH_take hi hs hf hr hQ (Or.inr ⟨hw, rfl⟩) hS h
end Go.Proofs.YtclpamjgglfljaaDoor

/- The walks of the program's urlCopy and frameCopy, of the library's Index and Contains at int64, and of framesWithout. Written by implwithout9.py. -/
namespace Go.Proofs.YtclpamjgglfljaaDoor
open Go.RowKit

def q80 : Oper := { dst := some 3, op := Op.fieldAddr 35 (Operand.tmp 1) 0, type := 0, pos := "l09_frame.go:84", after := #[], guard := none }
def q81 : Oper := { dst := some 4, op := Op.load 9 (Operand.tmp 3), type := 9, pos := "l09_frame.go:84", after := #[{ on := 0, ground := Ground.data }], guard := none }
def q82 : Oper := { dst := some 5, op := Op.call { callee := Callee.value (Operand.func 78), args := #[Operand.tmp 4, Operand.const (Value.string { data := #[] })], argTypes := #[9, 9] }, type := 9, pos := "l09_frame.go:84", after := #[{ on := 1, ground := Ground.data }], guard := none }
def q83 : Oper := { dst := some 6, op := Op.fieldAddr 35 (Operand.tmp 1) 1, type := 0, pos := "l09_frame.go:84", after := #[], guard := none }
def q84 : Oper := { dst := some 7, op := Op.load 9 (Operand.tmp 6), type := 9, pos := "l09_frame.go:84", after := #[{ on := 3, ground := Ground.data }], guard := none }
def q85 : Oper := { dst := some 8, op := Op.call { callee := Callee.value (Operand.func 78), args := #[Operand.tmp 7, Operand.const (Value.string { data := #[] })], argTypes := #[9, 9] }, type := 9, pos := "l09_frame.go:84", after := #[{ on := 4, ground := Ground.data }, { on := 2, ground := Ground.chain }], guard := none }
def q86 : Oper := { dst := some 9, op := Op.fieldAddr 35 (Operand.tmp 1) 2, type := 0, pos := "l09_frame.go:84", after := #[], guard := none }
def q87 : Oper := { dst := some 10, op := Op.load 2 (Operand.tmp 9), type := 2, pos := "l09_frame.go:84", after := #[{ on := 6, ground := Ground.data }], guard := none }
def q88 : Oper := { dst := some 11, op := Op.fieldAddr 35 (Operand.tmp 1) 3, type := 0, pos := "l09_frame.go:84", after := #[], guard := none }
def q89 : Oper := { dst := some 12, op := Op.load 9 (Operand.tmp 11), type := 9, pos := "l09_frame.go:84", after := #[{ on := 8, ground := Ground.data }], guard := none }
def q810 : Oper := { dst := some 13, op := Op.call { callee := Callee.value (Operand.func 78), args := #[Operand.tmp 12, Operand.const (Value.string { data := #[] })], argTypes := #[9, 9] }, type := 9, pos := "l09_frame.go:84", after := #[{ on := 9, ground := Ground.data }, { on := 5, ground := Ground.chain }], guard := none }
def q811 : Oper := { dst := some 14, op := Op.build 35 #[(0, Operand.tmp 5), (1, Operand.tmp 8), (2, Operand.tmp 10), (3, Operand.tmp 13)], type := 35, pos := "l09_frame.go:84", after := #[{ on := 2, ground := Ground.data }, { on := 5, ground := Ground.data }, { on := 7, ground := Ground.data }, { on := 10, ground := Ground.data }], guard := none }
def q812 : Oper := { dst := none, op := Op.store 35 (Operand.tmp 2) (Operand.tmp 14), type := 0, pos := "l09_frame.go:84", after := #[{ on := 11, ground := Ground.data }, { on := 10, ground := Ground.chain }, { on := 0, ground := Ground.phase }, { on := 1, ground := Ground.phase }, { on := 2, ground := Ground.phase }, { on := 3, ground := Ground.phase }, { on := 4, ground := Ground.phase }, { on := 5, ground := Ground.phase }, { on := 6, ground := Ground.phase }, { on := 7, ground := Ground.phase }, { on := 8, ground := Ground.phase }, { on := 9, ground := Ground.phase }, { on := 10, ground := Ground.phase }, { on := 11, ground := Ground.phase }], guard := none }
open List (setIfInBounds_toArray set_cons_zero set_cons_succ)
set_option maxRecDepth 10000 in
set_option maxHeartbeats 8000000 in
theorem urlCopy_any (sc ho pt : ByteArray) (po : Int) (w : World) (h0 : sc.size ≤ 1000000) (h1 : ho.size ≤ 1000000) (h2 : pt.size ≤ 1000000) :
    Calls Tryd.prog 62 #[.agg #[.string sc, .string ho, .int .i64 po, .string pt]] w fun e w' => e = .returned (.agg #[.string sc, .string ho, .int .i64 po, .string pt]) ∧ Below w.heap.size w w' := by
  have K0 : Hid (∀ W, Calls Tryd.prog 78 #[.string sc, .string ⟨#[]⟩] W fun e w' => e = .returned (.string sc) ∧ Below W.heap.size W w') := fun W => together_empty sc W (by omega)
  have K1 : Hid (∀ W, Calls Tryd.prog 78 #[.string ho, .string ⟨#[]⟩] W fun e w' => e = .returned (.string ho) ∧ Below W.heap.size W w') := fun W => together_empty ho W (by omega)
  have K2 : Hid (∀ W, Calls Tryd.prog 78 #[.string pt, .string ⟨#[]⟩] W fun e w' => e = .returned (.string pt) ∧ Below W.heap.size W w') := fun W => together_empty pt W (by omega)
  obtain ⟨W0, hW⟩ : ∃ W0, W0 = ((w.alloc (.cells #[.string sc, .string ho, .int .i64 po, .string pt] 35)).alloc (.cells #[.string ⟨#[]⟩, .string ⟨#[]⟩, .int .i64 0, .string ⟨#[]⟩] 35)) := ⟨_, rfl⟩
  have hW0 : Hid (W0 = ((w.alloc (.cells #[.string sc, .string ho, .int .i64 po, .string pt] 35)).alloc (.cells #[.string ⟨#[]⟩, .string ⟨#[]⟩, .int .i64 0, .string ⟨#[]⟩] 35))) := hW
  have HB : Hid (Below w.heap.size w W0) := by show Below _ _ _; rw [hW]; exact ((Below.refl _ _).alloc (Nat.le_refl _) _).alloc (by simp) _
  have z1 : w.heap.size + 1 < W0.heap.size := by rw [hW]; simp
  have c0 : W0.cell? ⟨w.heap.size, 0, none⟩ = some (.string sc) := by rw [hW]; simp
  have c1 : W0.cell? ⟨w.heap.size, 1, none⟩ = some (.string ho) := by rw [hW]; simp
  have c2 : W0.cell? ⟨w.heap.size, 2, none⟩ = some (.int .i64 po) := by rw [hW]; simp
  have c3 : W0.cell? ⟨w.heap.size, 3, none⟩ = some (.string pt) := by rw [hW]; simp
  have d0 : W0.cell? ⟨w.heap.size + 1, 0, none⟩ = some (.string ⟨#[]⟩) := by rw [hW]; exact (World.cell?_alloc_at _ _ _ _ (by simp)).trans rfl
  have d1 : W0.cell? ⟨w.heap.size + 1, 1, none⟩ = some (.string ⟨#[]⟩) := by rw [hW]; exact (World.cell?_alloc_at _ _ _ _ (by simp)).trans rfl
  have d2 : W0.cell? ⟨w.heap.size + 1, 2, none⟩ = some (.int .i64 0) := by rw [hW]; exact (World.cell?_alloc_at _ _ _ _ (by simp)).trans rfl
  have d3 : W0.cell? ⟨w.heap.size + 1, 3, none⟩ = some (.string ⟨#[]⟩) := by rw [hW]; exact (World.cell?_alloc_at _ _ _ _ (by simp)).trans rfl
  have fz : ∀ o, W0.frozen? ⟨w.heap.size + 1, o, none⟩ = false := by rw [hW]; exact fun o => World.frozen?_alloc_at _ _ _ _ (by simp)
  have f0 := fz 0
  have f1 := fz 1
  have f2 := fz 2
  have f3 := fz 3
  clear hW h0 h1 h2 fz
  go_enter Tryd.func62, Tryd.ntmps62
  go_upto_region 1 with fail
  rw [← hW0.out]
  clear hW0
  generalize hbb : w.heap.size = b at *
  have hb1 : b < W0.heap.size := by omega
  refine wp_region_held_drew (S := (fun w' => w'.cell? ⟨b, 0, none⟩ = some (.string sc) ∧ w'.cell? ⟨b, 1, none⟩ = some (.string ho) ∧ w'.cell? ⟨b, 2, none⟩ = some (.int .i64 po) ∧ w'.cell? ⟨b, 3, none⟩ = some (.string pt))) (by kernel_rfl) ?_ (fun hH0 => ?_)
  · (try dsimp only)
    go_keep
  refine takeY (i := 0) (oi := q80) (v := ?va00) rfl ?ha00 ?ra00
  case ha00 => (intro w hSw; (try dsimp only [q80] at hSw ⊢); go_simp; try with_reducible rfl)
  try simp only [q80, Act.put, setIfInBounds_toArray, set_cons_zero, set_cons_succ]
  refine takeY (i := 1) (oi := q81) (v := ?va01) rfl ?ha01 ?ra01
  case ha01 => (intro w hSw; (try dsimp only [q81] at hSw ⊢); go_simp; try with_reducible rfl)
  try simp only [q81, Act.put, setIfInBounds_toArray, set_cons_zero, set_cons_succ]
  refine takeY (i := 3) (oi := q83) (v := ?va03) rfl ?ha03 ?ra03
  case ha03 => (intro w hSw; (try dsimp only [q83] at hSw ⊢); go_simp; try with_reducible rfl)
  try simp only [q83, Act.put, setIfInBounds_toArray, set_cons_zero, set_cons_succ]
  refine takeY (i := 4) (oi := q84) (v := ?va04) rfl ?ha04 ?ra04
  case ha04 => (intro w hSw; (try dsimp only [q84] at hSw ⊢); go_simp; try with_reducible rfl)
  try simp only [q84, Act.put, setIfInBounds_toArray, set_cons_zero, set_cons_succ]
  refine takeY (i := 6) (oi := q86) (v := ?va06) rfl ?ha06 ?ra06
  case ha06 => (intro w hSw; (try dsimp only [q86] at hSw ⊢); go_simp; try with_reducible rfl)
  try simp only [q86, Act.put, setIfInBounds_toArray, set_cons_zero, set_cons_succ]
  refine takeY (i := 7) (oi := q87) (v := ?va07) rfl ?ha07 ?ra07
  case ha07 => (intro w hSw; (try dsimp only [q87] at hSw ⊢); go_simp; try with_reducible rfl)
  try simp only [q87, Act.put, setIfInBounds_toArray, set_cons_zero, set_cons_succ]
  refine takeY (i := 8) (oi := q88) (v := ?va08) rfl ?ha08 ?ra08
  case ha08 => (intro w hSw; (try dsimp only [q88] at hSw ⊢); go_simp; try with_reducible rfl)
  try simp only [q88, Act.put, setIfInBounds_toArray, set_cons_zero, set_cons_succ]
  refine takeY (i := 9) (oi := q89) (v := ?va09) rfl ?ha09 ?ra09
  case ha09 => (intro w hSw; (try dsimp only [q89] at hSw ⊢); go_simp; try with_reducible rfl)
  try simp only [q89, Act.put, setIfInBounds_toArray, set_cons_zero, set_cons_succ]
  refine wpAnyH_ready (rs := [2]) (by kernel_rfl) (by simp) ?_
  refine AllReadyH.cons (o := q82) rfl (fun K hK => ?_) AllReadyH.nil
  dsimp only [q82] at hK ⊢
  go_simp
  (go_at_call 78; refine (K0.out _).mono ?_; rintro e w1 ⟨rfl, hq1⟩; have A1 : Below W0.heap.size W0 w1 := (Below.drew (Below.refl _ _)).trans hq1; have x0 : w1.cell? ⟨b, 0, none⟩ = some (.string sc) := ((bcell A1).1 _ _ hb1).trans c0; have x1 : w1.cell? ⟨b, 1, none⟩ = some (.string ho) := ((bcell A1).1 _ _ hb1).trans c1; have x2 : w1.cell? ⟨b, 2, none⟩ = some (.int .i64 po) := ((bcell A1).1 _ _ hb1).trans c2; have x3 : w1.cell? ⟨b, 3, none⟩ = some (.string pt) := ((bcell A1).1 _ _ hb1).trans c3)
  try (go_wp2_with fail)
  refine hK.out _ _ ?_ (fun hH1 => ?_)
  · (try dsimp only)
    go_keep
  clear hK K hH0
  try simp only [q82, Act.put, setIfInBounds_toArray, set_cons_zero, set_cons_succ]
  refine wpAnyH_ready (rs := [5]) (by kernel_rfl) (by simp) ?_
  refine AllReadyH.cons (o := q85) rfl (fun K hK => ?_) AllReadyH.nil
  dsimp only [q85] at hK ⊢
  go_simp
  (go_at_call 78; refine (K1.out _).mono ?_; rintro e w2 ⟨rfl, hq2⟩; have A2 : Below W0.heap.size W0 w2 := A1.trans (hq2.mono A1.size); have y0 : w2.cell? ⟨b, 0, none⟩ = some (.string sc) := ((bcell A2).1 _ _ hb1).trans c0; have y1 : w2.cell? ⟨b, 1, none⟩ = some (.string ho) := ((bcell A2).1 _ _ hb1).trans c1; have y2 : w2.cell? ⟨b, 2, none⟩ = some (.int .i64 po) := ((bcell A2).1 _ _ hb1).trans c2; have y3 : w2.cell? ⟨b, 3, none⟩ = some (.string pt) := ((bcell A2).1 _ _ hb1).trans c3)
  try (go_wp2_with fail)
  refine hK.out _ _ ?_ (fun hH2 => ?_)
  · (try dsimp only)
    go_keep
  clear hK K hH1
  try simp only [q85, Act.put, setIfInBounds_toArray, set_cons_zero, set_cons_succ]
  refine wpAnyH_ready (rs := [10]) (by kernel_rfl) (by simp) ?_
  refine AllReadyH.cons (o := q810) rfl (fun K hK => ?_) AllReadyH.nil
  dsimp only [q810] at hK ⊢
  go_simp
  (go_at_call 78; refine (K2.out _).mono ?_; rintro e w3 ⟨rfl, hq3⟩; have A3 : Below W0.heap.size W0 w3 := A2.trans (hq3.mono A2.size); have v0 : w3.cell? ⟨b, 0, none⟩ = some (.string sc) := ((bcell A3).1 _ _ hb1).trans c0; have v1 : w3.cell? ⟨b, 1, none⟩ = some (.string ho) := ((bcell A3).1 _ _ hb1).trans c1; have v2 : w3.cell? ⟨b, 2, none⟩ = some (.int .i64 po) := ((bcell A3).1 _ _ hb1).trans c2; have v3 : w3.cell? ⟨b, 3, none⟩ = some (.string pt) := ((bcell A3).1 _ _ hb1).trans c3; have r0 : w3.cell? ⟨b + 1, 0, none⟩ = some (.string ⟨#[]⟩) := ((bcell A3).1 _ _ z1).trans d0; have s0 : w3.frozen? ⟨b + 1, 0, none⟩ = false := ((bcell A3).2 _ _ z1).trans f0; have r1 : w3.cell? ⟨b + 1, 1, none⟩ = some (.string ⟨#[]⟩) := ((bcell A3).1 _ _ z1).trans d1; have s1 : w3.frozen? ⟨b + 1, 1, none⟩ = false := ((bcell A3).2 _ _ z1).trans f1; have r2 : w3.cell? ⟨b + 1, 2, none⟩ = some (.int .i64 0) := ((bcell A3).1 _ _ z1).trans d2; have s2 : w3.frozen? ⟨b + 1, 2, none⟩ = false := ((bcell A3).2 _ _ z1).trans f2; have r3 : w3.cell? ⟨b + 1, 3, none⟩ = some (.string ⟨#[]⟩) := ((bcell A3).1 _ _ z1).trans d3; have s3 : w3.frozen? ⟨b + 1, 3, none⟩ = false := ((bcell A3).2 _ _ z1).trans f3)
  try (go_wp2_with fail)
  refine hK.out _ _ ?_ (fun hH3 => ?_)
  · (try dsimp only)
    go_keep
  clear hK K hH2
  try simp only [q810, Act.put, setIfInBounds_toArray, set_cons_zero, set_cons_succ]
  refine takeY (i := 11) (oi := q811) (v := ?va011) rfl ?ha011 ?ra011
  case ha011 => (intro w hSw; (try dsimp only [q811] at hSw ⊢); go_simp; try with_reducible rfl)
  try simp only [q811, Act.put, setIfInBounds_toArray, set_cons_zero, set_cons_succ]
  refine wpAnyH_ready (rs := [12]) (by kernel_rfl) (by simp) ?_
  refine AllReadyH.cons (o := q812) rfl (fun K hK => ?_) AllReadyH.nil
  dsimp only [q812] at hK ⊢
  go_simp
  (skip)
  try (go_wp2_with fail)
  refine hK.out _ _ ?_ (fun hH4 => ?_)
  · (try dsimp only)
    go_keep
  clear hK K hH3
  try simp only [q812, Act.put, setIfInBounds_toArray, set_cons_zero, set_cons_succ]
  refine wpAnyH_done (by kernel_rfl) ?_ _
  all_goals go_wp2
  all_goals
    refine bodyPost_ret (v := .agg #[.string sc, .string ho, .int .i64 po, .string pt]) (by simp [results, Tryd.results62, go_sem, r0, r1, r2, r3]) rfl ⟨rfl, ?_⟩
    have hB2 : Below b w w3 := HB.out.trans (A3.mono (by omega))
    rw [hbb]
    exact (Below.setCell (Below.setCell (Below.setCell (Below.setCell hB2 (Nat.le_succ _) _) (Nat.le_succ _) _) (Nat.le_succ _) _) (Nat.le_succ _) _)
set_option maxRecDepth 10000 in
set_option maxHeartbeats 8000000 in
theorem frameCopy_any (c : Fr) (w : World) (h0 : c.sc.size ≤ 1000000) (h1 : c.ho.size ≤ 1000000) (h2 : c.pt.size ≤ 1000000) :
    Calls Tryd.prog 57 #[frV c] w fun e w' => e = .returned (frV c) ∧ Below w.heap.size w w' := by
  have K : Hid (∀ W, Calls Tryd.prog 62 #[.agg #[.string c.sc, .string c.ho, .int .i64 c.po, .string c.pt]] W fun e w' => e = .returned (.agg #[.string c.sc, .string c.ho, .int .i64 c.po, .string c.pt]) ∧ Below W.heap.size W w') := fun W => urlCopy_any c.sc c.ho c.pt c.po W h0 h1 h2
  clear h0 h1 h2
  obtain ⟨id, pa, sc, ho, po, pt, sb, fl, tc⟩ := c
  unfold frV
  dsimp only at *
  have HX0 : Hid (BoxV (w.alloc (.cells #[.int .i64 id, .int .i64 pa, .string sc, .string ho, .int .i64 po, .string pt, .bool sb, .bool fl, .int .i64 tc] 54)) w.heap.size [.int .i64 id, .int .i64 pa, .string sc, .string ho, .int .i64 po, .string pt, .bool sb, .bool fl, .int .i64 tc]) := boxV_new w [.int .i64 id, .int .i64 pa, .string sc, .string ho, .int .i64 po, .string pt, .bool sb, .bool fl, .int .i64 tc] 54
  have HY0 : Hid (BoxV ((w.alloc (.cells #[.int .i64 id, .int .i64 pa, .string sc, .string ho, .int .i64 po, .string pt, .bool sb, .bool fl, .int .i64 tc] 54)).alloc (.cells #[.int .i64 0, .int .i64 0, .string ⟨#[]⟩, .string ⟨#[]⟩, .int .i64 0, .string ⟨#[]⟩, .bool false, .bool false, .int .i64 0] 54)) (w.heap.size + 1) [.int .i64 0, .int .i64 0, .string ⟨#[]⟩, .string ⟨#[]⟩, .int .i64 0, .string ⟨#[]⟩, .bool false, .bool false, .int .i64 0]) := by
    have h := boxV_new (w.alloc (.cells #[.int .i64 id, .int .i64 pa, .string sc, .string ho, .int .i64 po, .string pt, .bool sb, .bool fl, .int .i64 tc] 54)) [.int .i64 0, .int .i64 0, .string ⟨#[]⟩, .string ⟨#[]⟩, .int .i64 0, .string ⟨#[]⟩, .bool false, .bool false, .int .i64 0] 54
    rw [World.size_alloc] at h
    exact h
  have HB0 : Hid (Below w.heap.size w ((w.alloc (.cells #[.int .i64 id, .int .i64 pa, .string sc, .string ho, .int .i64 po, .string pt, .bool sb, .bool fl, .int .i64 tc] 54)).alloc (.cells #[.int .i64 0, .int .i64 0, .string ⟨#[]⟩, .string ⟨#[]⟩, .int .i64 0, .string ⟨#[]⟩, .bool false, .bool false, .int .i64 0] 54))) := ((Below.refl _ _).alloc (Nat.le_refl _) _).alloc (by simp) _
  go_enter Tryd.func57, Tryd.ntmps57
  go_wp2_with fail
  refine (K.out _).mono ?_
  rintro e w1 ⟨rfl, hb1⟩
  have HX1 : Hid (BoxV w1 w.heap.size [.int .i64 id, .int .i64 pa, .string sc, .string ho, .int .i64 po, .string pt, .bool sb, .bool fl, .int .i64 tc]) := (HX0.out.alloc _).below hb1
  have HY1 : Hid (BoxV w1 (w.heap.size + 1) [.int .i64 0, .int .i64 0, .string ⟨#[]⟩, .string ⟨#[]⟩, .int .i64 0, .string ⟨#[]⟩, .bool false, .bool false, .int .i64 0]) := HY0.out.below hb1
  have B1 : Hid (Below w.heap.size w w1) := HB0.out.trans (hb1.mono HB0.out.size)
  clear hb1 HX0 HY0 HB0 K
  generalize hbb : w.heap.size = b at *
  have x0 : w1.cell? ⟨b, 0, none⟩ = some (.int .i64 id) := HX1.out.at (i := 0) rfl
  have xf0 : w1.frozen? ⟨b, 0, none⟩ = false := HX1.out.free (i := 0) rfl
  have x1 : w1.cell? ⟨b, 1, none⟩ = some (.int .i64 pa) := HX1.out.at (i := 1) rfl
  have xf1 : w1.frozen? ⟨b, 1, none⟩ = false := HX1.out.free (i := 1) rfl
  have x2 : w1.cell? ⟨b, 2, none⟩ = some (.string sc) := HX1.out.at (i := 2) rfl
  have xf2 : w1.frozen? ⟨b, 2, none⟩ = false := HX1.out.free (i := 2) rfl
  have x3 : w1.cell? ⟨b, 3, none⟩ = some (.string ho) := HX1.out.at (i := 3) rfl
  have xf3 : w1.frozen? ⟨b, 3, none⟩ = false := HX1.out.free (i := 3) rfl
  have x4 : w1.cell? ⟨b, 4, none⟩ = some (.int .i64 po) := HX1.out.at (i := 4) rfl
  have xf4 : w1.frozen? ⟨b, 4, none⟩ = false := HX1.out.free (i := 4) rfl
  have x5 : w1.cell? ⟨b, 5, none⟩ = some (.string pt) := HX1.out.at (i := 5) rfl
  have xf5 : w1.frozen? ⟨b, 5, none⟩ = false := HX1.out.free (i := 5) rfl
  have x6 : w1.cell? ⟨b, 6, none⟩ = some (.bool sb) := HX1.out.at (i := 6) rfl
  have xf6 : w1.frozen? ⟨b, 6, none⟩ = false := HX1.out.free (i := 6) rfl
  have x7 : w1.cell? ⟨b, 7, none⟩ = some (.bool fl) := HX1.out.at (i := 7) rfl
  have xf7 : w1.frozen? ⟨b, 7, none⟩ = false := HX1.out.free (i := 7) rfl
  have x8 : w1.cell? ⟨b, 8, none⟩ = some (.int .i64 tc) := HX1.out.at (i := 8) rfl
  have xf8 : w1.frozen? ⟨b, 8, none⟩ = false := HX1.out.free (i := 8) rfl
  have y0 : w1.cell? ⟨b + 1, 0, none⟩ = some (.int .i64 0) := HY1.out.at (i := 0) rfl
  have yf0 : w1.frozen? ⟨b + 1, 0, none⟩ = false := HY1.out.free (i := 0) rfl
  have y1 : w1.cell? ⟨b + 1, 1, none⟩ = some (.int .i64 0) := HY1.out.at (i := 1) rfl
  have yf1 : w1.frozen? ⟨b + 1, 1, none⟩ = false := HY1.out.free (i := 1) rfl
  have y2 : w1.cell? ⟨b + 1, 2, none⟩ = some (.string ⟨#[]⟩) := HY1.out.at (i := 2) rfl
  have yf2 : w1.frozen? ⟨b + 1, 2, none⟩ = false := HY1.out.free (i := 2) rfl
  have y3 : w1.cell? ⟨b + 1, 3, none⟩ = some (.string ⟨#[]⟩) := HY1.out.at (i := 3) rfl
  have yf3 : w1.frozen? ⟨b + 1, 3, none⟩ = false := HY1.out.free (i := 3) rfl
  have y4 : w1.cell? ⟨b + 1, 4, none⟩ = some (.int .i64 0) := HY1.out.at (i := 4) rfl
  have yf4 : w1.frozen? ⟨b + 1, 4, none⟩ = false := HY1.out.free (i := 4) rfl
  have y5 : w1.cell? ⟨b + 1, 5, none⟩ = some (.string ⟨#[]⟩) := HY1.out.at (i := 5) rfl
  have yf5 : w1.frozen? ⟨b + 1, 5, none⟩ = false := HY1.out.free (i := 5) rfl
  have y6 : w1.cell? ⟨b + 1, 6, none⟩ = some (.bool false) := HY1.out.at (i := 6) rfl
  have yf6 : w1.frozen? ⟨b + 1, 6, none⟩ = false := HY1.out.free (i := 6) rfl
  have y7 : w1.cell? ⟨b + 1, 7, none⟩ = some (.bool false) := HY1.out.at (i := 7) rfl
  have yf7 : w1.frozen? ⟨b + 1, 7, none⟩ = false := HY1.out.free (i := 7) rfl
  have y8 : w1.cell? ⟨b + 1, 8, none⟩ = some (.int .i64 0) := HY1.out.at (i := 8) rfl
  have yf8 : w1.frozen? ⟨b + 1, 8, none⟩ = false := HY1.out.free (i := 8) rfl
  clear HX1 HY1
  go_wp2
  exact bodyPost_ret (v := .agg #[.int .i64 id, .int .i64 pa, .string sc, .string ho, .int .i64 po, .string pt, .bool sb, .bool fl, .int .i64 tc]) (by simp [results, Tryd.results57, go_sem, y0, y1, y2, y3, y4, y5, y6, y7, y8]) rfl ⟨rfl, by rw [hbb]; exact (Below.setCell (Below.setCell (Below.setCell (Below.setCell (Below.setCell (Below.setCell (Below.setCell (Below.setCell (Below.setCell (Below.setCell (Below.setCell (Below.setCell (Below.setCell B1.out (Nat.le_refl _) _) (Nat.le_refl _) _) (Nat.le_refl _) _) (Nat.le_refl _) _) (Nat.le_succ _) _) (Nat.le_succ _) _) (Nat.le_succ _) _) (Nat.le_succ _) _) (Nat.le_succ _) _) (Nat.le_succ _) _) (Nat.le_succ _) _) (Nat.le_succ _) _) (Nat.le_succ _) _)⟩
/-- a slice of numbers -/
def SliceN (w : World) (B : Nat) (v : Value) (I : List Int) : Prop := SliceR w B 1 v I.length (fun j _ => .int .i64 (I.getD j 0)) 
theorem SliceN.below {w w' : World} {B : Nat} {v : Value} {I : List Int} (h : SliceN w B v I) (hb : Below w.heap.size w w') : SliceN w' B v I := SliceR.below h hb
theorem sliceN_none (w : World) (B : Nat) : SliceN w B (.slice none 0 0) [] := sliceR_none _ _ _ _ _ _
set_option maxRecDepth 10000 in
set_option maxHeartbeats 4000000 in
theorem index9_any (v : Value) (I : List Int) (B : Nat) (x : Int) (w : World) (hs : SliceN w B v I) (hn : I.length ≤ 1048576) :
    Calls Tryd.prog 75 #[v, .int .i64 x] w fun e w' => (∃ r : Int, e = .returned (.int .i64 r) ∧ decide (0 ≤ r) = I.contains x) ∧ w' = w := by
  obtain ⟨p, cap, rfl, hg⟩ := hs
  have HG : Hid (0 < I.length → ∃ g, p = some ⟨g, 0, none⟩ ∧ ∀ j, j < I.length → w.cell? ⟨g, j, none⟩ = some (.int .i64 (I.getD j 0))) := fun h0 => by
    obtain ⟨g, e, -, -, hc⟩ := hg h0
    exact ⟨g, e, fun j hj => by have := (hc j hj 0 (by omega)).1; rw [Nat.mul_one] at this; exact this⟩
  have HY : Hid (∀ k, k < I.length → I.getD k 0 = x → I.contains x = true) := fun k hk e => by
    rw [List.contains_iff_mem]
    subst e
    rw [List.getD_eq_getElem?_getD, List.getElem?_eq_getElem hk]
    exact List.getElem_mem hk
  have HN : Hid ((∀ j, j < I.length → I.getD j 0 ≠ x) → I.contains x = false) := fun h => by
    rw [Bool.eq_false_iff]
    intro hc
    rw [List.contains_iff_mem] at hc
    obtain ⟨j, hj, e⟩ := List.mem_iff_getElem.1 hc
    refine h j hj ?_
    rw [List.getD_eq_getElem?_getD, List.getElem?_eq_getElem hj]
    exact e
  clear hg
  generalize I.contains x = R at *
  go_enter Tryd.func75, Tryd.ntmps75
  go_wp2
  go_loopw [8] (fun i wr => ∃ k : Nat, k ≤ I.length ∧ i = .int .i64 k ∧ Hid (∀ j, j < k → I.getD j 0 ≠ x) ∧ Hid (wr = w)) (fun i _ => I.length - (intOf i).toNat)
  case atStart => exact ⟨0, Nat.zero_le _, rfl, fun j hj => absurd hj (by omega), rfl⟩
  case round =>
    obtain ⟨k, hk, rfl, HR, HW⟩ := hrel
    by_cases hlt : k < I.length
    · obtain ⟨g, rfl, hc⟩ := HG.out (by omega)
      have c0 : wr.cell? ⟨g, k, none⟩ = some (.int .i64 (I.getD k 0)) := by rw [HW.out]; exact hc k hlt
      have k0 : (0 : Int) ≤ k := by omega
      have k1 : (k : Int) < I.length := by omega
      have HYk : Hid (I.getD k 0 = x → R = true) := HY.out k hlt
      have HNx : Hid (I.getD k 0 ≠ x → ∀ j, j < k + 1 → I.getD j 0 ≠ x) := fun h j hj => by
        by_cases e : j = k
        · subst e; exact h
        · exact HR.out j (by omega)
      clear hc HG HY HN HR
      generalize I.getD k 0 = y at *
      by_cases hx : y = x
      · have q1 : (x == y) = true := by rw [hx]; exact beq_self_eq_true _
        have HQ : Hid (R = true) := HYk.out hx
        go_wp2
        go_ret
        exact ⟨⟨_, rfl, by rw [HQ.out]; exact decide_eq_true (by omega)⟩, HW.out⟩
      · have q1 : (x == y) = false := by rw [beq_eq_false_iff_ne]; exact fun e => hx e.symm
        have HN2 := HNx.out hx
        have HN3 : Hid (∀ j, j < k + 1 → I.getD j 0 ≠ x) := HN2
        clear HN2 HNx HYk
        go_wp2
        go_roundw
        case rel => exact ⟨k + 1, by omega, by go_num, HN3, HW⟩
        case measure => simp [intOf]; omega
    · have HQ : Hid (R = false) := HN.out (fun j hj => HR.out j (by omega))
      go_wp2
      go_ret
      exact ⟨⟨_, rfl, by rw [HQ.out]; exact decide_eq_false (by omega)⟩, HW.out⟩
set_option maxRecDepth 10000 in
theorem contains9_any (v : Value) (I : List Int) (B : Nat) (x : Int) (w : World) (hs : SliceN w B v I) (hn : I.length ≤ 1048576) :
    Calls Tryd.prog 56 #[v, .int .i64 x] w fun e w' => e = .returned (.bool (I.contains x)) ∧ w' = w := by
  have KI : Hid (∀ W, W = w → Calls Tryd.prog 75 #[v, .int .i64 x] W fun e w' => (∃ r : Int, e = .returned (.int .i64 r) ∧ decide (0 ≤ r) = I.contains x) ∧ w' = W) := fun W e => by subst e; exact index9_any v I B x W hs hn
  generalize I.contains x = R at *
  go_enter Tryd.func56, Tryd.ntmps56
  go_wp2_with fail
  refine (KI.out _ rfl).mono ?_
  rintro e w1 ⟨⟨r, rfl, hr⟩, e1⟩
  have HQ : Hid (decide (0 ≤ r) = R) := hr
  have HW : Hid (w1 = w) := e1
  clear hr e1
  go_wp2
  go_ret
  exact ⟨ret_bool HQ.out, HW.out⟩
/-- those whose Id is not among the numbers -/
def withF (I : List Int) (L : List Fr) : List Fr := L.filter (fun f => !(I.contains f.id))
theorem withF_len (I : List Int) (L : List Fr) : (withF I L).length ≤ L.length := List.length_filter_le _ _
theorem withF_step {I : List Int} {L : List Fr} {k : Nat} (hk : k < L.length) : withF I (L.take (k + 1)) = if I.contains (atF L k).id = true then withF I (L.take k) else withF I (L.take k) ++ [atF L k] := by
  unfold withF
  rw [List.take_succ_eq_append_getElem hk, List.filter_append, ← atF_get hk]
  cases h : I.contains (atF L k).id with
  | true => rw [if_pos rfl, List.filter_cons_of_neg (by rw [h]; decide), List.filter_nil, List.append_nil]
  | false => rw [if_neg (by decide), List.filter_cons_of_pos (by rw [h]; decide), List.filter_nil]
set_option maxRecDepth 10000 in
set_option maxHeartbeats 8000000 in
theorem framesWithout_any (v sv : Value) (L : List Fr) (I : List Int) (B Bs : Nat) (w : World) (hs : SliceF w B v L) (hn : L.length ≤ 1000) (hi9 : SliceN w Bs sv I) (hin : I.length ≤ 1048576) (hz : ∀ i, i < L.length → (atF L i).sc.size ≤ 1000000 ∧ (atF L i).ho.size ≤ 1000000 ∧ (atF L i).pt.size ≤ 1000000) :
    Calls Tryd.prog 33 #[v, sv] w fun e w' => ∃ v', e = .returned v' ∧ w'.ownsRow w.heap.size 54 9 v' (withF I L).length (frCells (withF I L)) ∧ Below w.heap.size w w' := by
  have KC : Hid (∀ j, j < L.length → ∀ W, Calls Tryd.prog 57 #[frV (atF L j)] W fun e w' => e = .returned (frV (atF L j)) ∧ Below W.heap.size W w') := fun j hj W => frameCopy_any (atF L j) W (hz j hj).1 (hz j hj).2.1 (hz j hj).2.2
  have KI : Hid (∀ x W, Below w.heap.size w W → Calls Tryd.prog 56 #[sv, .int .i64 x] W fun e w' => e = .returned (.bool (I.contains x)) ∧ w' = W) := fun x W hb => contains9_any sv I Bs x W (hi9.below hb) hin
  have HST : Hid (∀ k, k < L.length → withF I (L.take (k + 1)) = if I.contains (atF L k).id = true then withF I (L.take k) else withF I (L.take k) ++ [atF L k]) := fun k hk => withF_step hk
  have HLE : Hid (∀ k, (withF I (L.take k)).length ≤ k) := fun k => Nat.le_trans (withF_len _ _) (by rw [List.length_take]; omega)
  have HSN : Hid (∀ (Y : List Fr) (c : Fr), frCells Y ++ frVals c = frCells (Y ++ [c])) := fun Y c => frCells_snoc Y c
  obtain ⟨i0, hi, hy0, hy1, hy2⟩ := info_parts infoFrame
  obtain ⟨⟨q, cap, rfl, hg⟩, -⟩ := hs
  have HG : Hid (0 < L.length → ∃ g, q = some ⟨g, 0, none⟩ ∧ g < w.heap.size ∧ ∀ j, j < L.length → ∀ o, o < 9 → w.cell? ⟨g, j * 9 + o, none⟩ = some (frC (atF L j) o)) := fun h0 => by
    obtain ⟨g, e, -, hgw, hc⟩ := hg h0
    exact ⟨g, e, hgw, fun j hj o ho => (hc j hj o ho).1⟩
  clear hg hz hi9
  go_enter Tryd.func33, Tryd.ntmps33
  go_wp2
  go_loopw [5, 10] (fun stv i wr => ∃ (k : Nat) (sl : Value), sl = stv ∧ k ≤ L.length ∧ i = .int .i64 k ∧ Hid (wr.ownsRow w.heap.size 54 9 sl (withF I (L.take k)).length (frCells (withF I (L.take k)))) ∧ Hid (Below w.heap.size w wr)) (fun _ i _ => L.length - (intOf i).toNat)
  case atStart => exact ⟨0, _, rfl, Nat.zero_le _, rfl, World.ownsRow_nil _ _ _ _, Below.refl _ _⟩
  case round =>
    obtain ⟨k, sl, rfl, hk, rfl, HO, HB⟩ := hrel
    have hws : w.heap.size ≤ wr.heap.size := HB.out.size
    by_cases hlt : k < L.length
    · obtain ⟨g, rfl, hgw, hc⟩ := HG.out (by omega)
      have k0 : (0 : Int) ≤ k := by omega
      have k1 : (k : Int) < L.length := by omega
      have KC0 := KC.out k hlt
      have KI0 : Hid (∀ W, Below w.heap.size w W → Calls Tryd.prog 56 #[sv, .int .i64 (atF L k).id] W fun e w' => e = .returned (.bool (I.contains (atF L k).id)) ∧ w' = W) := fun W hb => KI.out _ W hb
      have c0 : wr.cell? ⟨g, k * 9, none⟩ = some (.int .i64 (atF L k).id) := by rw [(bcell HB.out).1 _ _ hgw]; exact hc k hlt 0 (by omega)
      have c1 : wr.cell? ⟨g, k * 9 + 1, none⟩ = some (.int .i64 (atF L k).pa) := by rw [(bcell HB.out).1 _ _ hgw]; exact hc k hlt 1 (by omega)
      have c2 : wr.cell? ⟨g, k * 9 + 2, none⟩ = some (.string (atF L k).sc) := by rw [(bcell HB.out).1 _ _ hgw]; exact hc k hlt 2 (by omega)
      have c3 : wr.cell? ⟨g, k * 9 + 3, none⟩ = some (.string (atF L k).ho) := by rw [(bcell HB.out).1 _ _ hgw]; exact hc k hlt 3 (by omega)
      have c4 : wr.cell? ⟨g, k * 9 + 4, none⟩ = some (.int .i64 (atF L k).po) := by rw [(bcell HB.out).1 _ _ hgw]; exact hc k hlt 4 (by omega)
      have c5 : wr.cell? ⟨g, k * 9 + 5, none⟩ = some (.string (atF L k).pt) := by rw [(bcell HB.out).1 _ _ hgw]; exact hc k hlt 5 (by omega)
      have c6 : wr.cell? ⟨g, k * 9 + 6, none⟩ = some (.bool (atF L k).sb) := by rw [(bcell HB.out).1 _ _ hgw]; exact hc k hlt 6 (by omega)
      have c7 : wr.cell? ⟨g, k * 9 + 7, none⟩ = some (.bool (atF L k).fl) := by rw [(bcell HB.out).1 _ _ hgw]; exact hc k hlt 7 (by omega)
      have c8 : wr.cell? ⟨g, k * 9 + 8, none⟩ = some (.int .i64 (atF L k).tc) := by rw [(bcell HB.out).1 _ _ hgw]; exact hc k hlt 8 (by omega)
      have HYes : Hid (I.contains (atF L k).id = true → withF I (L.take (k + 1)) = withF I (L.take k)) := fun h => by rw [HST.out k hlt, if_pos h]
      have HNo : Hid (I.contains (atF L k).id = false → withF I (L.take (k + 1)) = withF I (L.take k) ++ [atF L k]) := fun h => by rw [HST.out k hlt, if_neg (by rw [h]; decide)]
      have hle := HLE.out k
      clear hc
      generalize hct : I.contains (atF L k).id = ct at *
      clear hct
      generalize atF L k = y at *
      generalize hY2 : withF I (L.take (k + 1)) = Y2 at *
      generalize withF I (L.take k) = Y at *
      generalize hm : Y.length = m at *
      have HM : Hid (Y.length = m) := hm
      clear hm
      obtain ⟨yid, ypa, ysc, yho, ypo, ypt, ysb, yfl, ytc⟩ := y
      unfold frV at KC0
      dsimp only at *
      have KC1 : Hid (∀ W, Calls Tryd.prog 57 #[.agg #[.int .i64 yid, .int .i64 ypa, .string ysc, .string yho, .int .i64 ypo, .string ypt, .bool ysb, .bool yfl, .int .i64 ytc]] W fun e w' => e = .returned (.agg #[.int .i64 yid, .int .i64 ypa, .string ysc, .string yho, .int .i64 ypo, .string ypt, .bool ysb, .bool yfl, .int .i64 ytc]) ∧ Below W.heap.size W w') := KC0
      clear KC0
      obtain ⟨W0, hW⟩ : ∃ W0, W0 = wr.alloc (.cells #[.int .i64 yid, .int .i64 ypa, .string ysc, .string yho, .int .i64 ypo, .string ypt, .bool ysb, .bool yfl, .int .i64 ytc] 54) := ⟨_, rfl⟩
      have hW0 : Hid (W0 = wr.alloc (.cells #[.int .i64 yid, .int .i64 ypa, .string ysc, .string yho, .int .i64 ypo, .string ypt, .bool ysb, .bool yfl, .int .i64 ytc] 54)) := hW
      have HBr : Hid (Below wr.heap.size wr W0) := by show Below _ _ _; rw [hW]; exact (Below.refl _ _).alloc (Nat.le_refl _) _
      have n0 : W0.cell? ⟨wr.heap.size, 0, none⟩ = some (.int .i64 yid) := by rw [hW]; simp
      have n1 : W0.cell? ⟨wr.heap.size, 1, none⟩ = some (.int .i64 ypa) := by rw [hW]; simp
      have n2 : W0.cell? ⟨wr.heap.size, 2, none⟩ = some (.string ysc) := by rw [hW]; simp
      have n3 : W0.cell? ⟨wr.heap.size, 3, none⟩ = some (.string yho) := by rw [hW]; simp
      have n4 : W0.cell? ⟨wr.heap.size, 4, none⟩ = some (.int .i64 ypo) := by rw [hW]; simp
      have n5 : W0.cell? ⟨wr.heap.size, 5, none⟩ = some (.string ypt) := by rw [hW]; simp
      have n6 : W0.cell? ⟨wr.heap.size, 6, none⟩ = some (.bool ysb) := by rw [hW]; simp
      have n7 : W0.cell? ⟨wr.heap.size, 7, none⟩ = some (.bool yfl) := by rw [hW]; simp
      have n8 : W0.cell? ⟨wr.heap.size, 8, none⟩ = some (.int .i64 ytc) := by rw [hW]; simp
      have hbW : wr.heap.size < W0.heap.size := by rw [hW]; simp
      clear hW
      go_upto_region 5 with fail
      rw [← hW0.out]
      clear hW0 c0 c1 c2 c3 c4 c5 c6 c7 c8
      generalize hbb : wr.heap.size = b at *
      go_wp2_with fail
      refine (KI0.out _ (HB.out.trans (by rw [← hbb] at HBr; exact HBr.out.mono HB.out.size))).mono ?_
      rintro e w2 ⟨rfl, e2⟩
      subst e2
      cases ct with
      | true =>
        have O5 : Hid (w2.ownsRow w.heap.size 54 9 sl Y2.length (frCells Y2)) := by
          show World.ownsRow _ _ _ _ _ _ _
          rw [HYes.out rfl, HM.out]
          exact ownR_below HO.out (by rw [hbb]; exact HBr.out)
        have B5 : Hid (Below w.heap.size w w2) := HB.out.trans (by rw [← hbb] at HBr; exact HBr.out.mono HB.out.size)
        clear HYes HNo KC1 KI0 n0 n1 n2 n3 n4 n5 n6 n7 n8 HO HB HBr
        go_wp2
        go_roundw
        case rel => exact ⟨k + 1, _, rfl, by omega, by go_num, by rw [hY2]; exact O5, B5⟩
        case measure => simp [intOf]; omega
      | false =>
        have HY2 : Hid (Y2 = Y ++ [⟨yid, ypa, ysc, yho, ypo, ypt, ysb, yfl, ytc⟩]) := HNo.out rfl
        clear HYes HNo KI0
        go_wp2_with fail
        refine (KC1.out _).mono ?_
        rintro e w3 ⟨rfl, hb3⟩
        have A3 : Below b wr w3 := HBr.out.trans (hb3.mono (Nat.le_of_lt hbW))
        have O4 : Hid (w3.ownsRow w.heap.size 54 9 _ m (frCells Y)) := ownR_below HO.out (by rw [hbb]; exact A3)
        have B3 : Hid (Below w.heap.size w w3) := HB.out.trans (by rw [← hbb] at A3; exact A3.mono HB.out.size)
        have hw3 : w.heap.size ≤ w3.heap.size := B3.out.size
        clear hb3 A3 HO HB HBr n0 n1 n2 n3 n4 n5 n6 n7 n8
        go_wp2_with (at_builtin; go_must (refine wpList_append_own _ rfl _ _ 29 rfl w.heap.size 54 i0 (.agg #[.int .i64 0, .int .i64 0, .string ⟨#[]⟩, .string ⟨#[]⟩, .int .i64 0, .string ⟨#[]⟩, .bool false, .bool false, .int .i64 0]) 9 88 Tryd.underlying29 hi hy0 hy1 hy2 rfl (by decide) _ _ _ rfl (O4.out.alloc _) ⟨w3.heap.size, 0, none⟩ 1 1 (frVals ⟨yid, ypa, ysc, yho, ypo, ypt, ysb, yfl, ytc⟩) rfl rfl (cell_Fr _ ⟨yid, ypa, ysc, yho, ypo, ypt, ysb, yfl, ytc⟩ _) (one_Fr ⟨yid, ypa, ysc, yho, ypo, ypt, ysb, yfl, ytc⟩) (by unfold maxLen; omega) (by omega) (by simp; omega) ?_))
        intro v1 w4 ho1 hg1 hn1
        have hb4 : Below w.heap.size w w4 := (B3.out.alloc B3.out.size _).grown hg1 (Nat.le_trans B3.out.size (by simp)) (fun j hj => own_base O4.out j hj)
        have O5 : Hid (w4.ownsRow w.heap.size 54 9 v1 Y2.length (frCells Y2)) := by
          show World.ownsRow _ _ _ _ _ _ _
          rw [HY2.out, ← HSN.out, List.length_append, HM.out]
          exact ho1
        have B4 : Hid (Below w.heap.size w w4) := hb4
        clear ho1 hg1 hn1 hb4
        go_wp2
        go_roundw
        case rel => exact ⟨k + 1, _, rfl, by omega, by go_num, by rw [hY2]; exact O5, B4⟩
        case measure => simp [intOf]; omega
    · obtain rfl : k = L.length := by omega
      have O5 : Hid (wr.ownsRow w.heap.size 54 9 sl (withF I L).length (frCells (withF I L))) := by
        have h := HO.out
        rw [List.take_length] at h
        exact h
      go_wp2
      go_ret
      exact ⟨_, rfl, O5.out, HB.out⟩
end Go.Proofs.YtclpamjgglfljaaDoor

/- The walk of the program's heldBy. Written by implheld9.py. -/
namespace Go.Proofs.YtclpamjgglfljaaDoor
open Go.RowKit

/-- the Ids of those that lie in a frame and in nothing between -/
def heldF (L : List Fr) (id : Int) : List Int := (L.filter (fun f => f.pa == id)).map (fun f => f.id)
def intsV (I : List Int) : List Value := I.map (fun i => Value.int .i64 i)
theorem heldF_len (L : List Fr) (id : Int) : (heldF L id).length ≤ L.length := by unfold heldF; rw [List.length_map]; exact List.length_filter_le _ _
theorem heldF_step {L : List Fr} {k : Nat} (hk : k < L.length) (id : Int) : heldF (L.take (k + 1)) id = if ((atF L k).pa == id) = true then heldF (L.take k) id ++ [(atF L k).id] else heldF (L.take k) id := by
  unfold heldF
  rw [List.take_succ_eq_append_getElem hk, List.filter_append, ← atF_get hk, List.map_append]
  cases h : ((atF L k).pa == id) with
  | true => rw [if_pos rfl, List.filter_cons_of_pos (p := fun f : Fr => f.pa == id) h, List.filter_nil]; rfl
  | false => rw [if_neg (by decide), List.filter_cons_of_neg (p := fun f : Fr => f.pa == id) (by rw [h]; decide), List.filter_nil, List.map_nil, List.append_nil]
theorem infoInt9 : (Tryd.prog.info? 2).map (fun i => (i.zero, i.size, i.bytes)) = some (some (.int .i64 0), 1, 8) := by kernel_rfl
theorem cell_one9 (w : World) (v : Value) (t : TypeId) : ∀ j u, [v][j]? = some u → (w.alloc (.cells #[v] t)).cell? ((⟨w.heap.size, 0, none⟩ : Addr).add j) = some u := by
  intro j u h
  have e : (⟨w.heap.size, 0, none⟩ : Addr).add j = ⟨w.heap.size, j, none⟩ := by unfold Addr.add; split <;> simp_all
  rw [e, World.cell?_alloc_new, ← Array.getElem?_toList]
  exact h
set_option maxRecDepth 10000 in
set_option maxHeartbeats 8000000 in
theorem heldBy_any (v : Value) (L : List Fr) (B : Nat) (id : Int) (w : World) (hs : SliceF w B v L) (hn : L.length ≤ 1000) :
    Calls Tryd.prog 35 #[v, .int .i64 id] w fun e w' => ∃ v', e = .returned v' ∧ w'.ownsRow w.heap.size 2 1 v' (heldF L id).length (intsV (heldF L id)) ∧ Below w.heap.size w w' := by
  have HST : Hid (∀ k, k < L.length → heldF (L.take (k + 1)) id = if ((atF L k).pa == id) = true then heldF (L.take k) id ++ [(atF L k).id] else heldF (L.take k) id) := fun k hk => heldF_step hk id
  have HLE : Hid (∀ k, (heldF (L.take k) id).length ≤ k) := fun k => Nat.le_trans (heldF_len _ _) (by rw [List.length_take]; omega)
  obtain ⟨i0, hi, hy0, hy1, hy2⟩ := info_parts infoInt9
  obtain ⟨⟨q, cap, rfl, hg⟩, -⟩ := hs
  have HG : Hid (0 < L.length → ∃ g, q = some ⟨g, 0, none⟩ ∧ g < w.heap.size ∧ ∀ j, j < L.length → ∀ o, o < 9 → w.cell? ⟨g, j * 9 + o, none⟩ = some (frC (atF L j) o)) := fun h0 => by
    obtain ⟨g, e, -, hgw, hc⟩ := hg h0
    exact ⟨g, e, hgw, fun j hj o ho => (hc j hj o ho).1⟩
  clear hg
  go_enter Tryd.func35, Tryd.ntmps35
  go_wp2
  go_loopw [5, 10] (fun stv i wr => ∃ (k : Nat) (sl : Value), sl = stv ∧ k ≤ L.length ∧ i = .int .i64 k ∧ Hid (wr.ownsRow w.heap.size 2 1 sl (heldF (L.take k) id).length (intsV (heldF (L.take k) id))) ∧ Hid (Below w.heap.size w wr)) (fun _ i _ => L.length - (intOf i).toNat)
  case atStart => exact ⟨0, _, rfl, Nat.zero_le _, rfl, World.ownsRow_nil _ _ _ _, Below.refl _ _⟩
  case round =>
    obtain ⟨k, sl, rfl, hk, rfl, HO, HB⟩ := hrel
    have hws : w.heap.size ≤ wr.heap.size := HB.out.size
    by_cases hlt : k < L.length
    · obtain ⟨g, rfl, hgw, hc⟩ := HG.out (by omega)
      have k0 : (0 : Int) ≤ k := by omega
      have k1 : (k : Int) < L.length := by omega
      have c0 : wr.cell? ⟨g, k * 9, none⟩ = some (.int .i64 (atF L k).id) := by rw [(bcell HB.out).1 _ _ hgw]; exact hc k hlt 0 (by omega)
      have c1 : wr.cell? ⟨g, k * 9 + 1, none⟩ = some (.int .i64 (atF L k).pa) := by rw [(bcell HB.out).1 _ _ hgw]; exact hc k hlt 1 (by omega)
      have c2 : wr.cell? ⟨g, k * 9 + 2, none⟩ = some (.string (atF L k).sc) := by rw [(bcell HB.out).1 _ _ hgw]; exact hc k hlt 2 (by omega)
      have c3 : wr.cell? ⟨g, k * 9 + 3, none⟩ = some (.string (atF L k).ho) := by rw [(bcell HB.out).1 _ _ hgw]; exact hc k hlt 3 (by omega)
      have c4 : wr.cell? ⟨g, k * 9 + 4, none⟩ = some (.int .i64 (atF L k).po) := by rw [(bcell HB.out).1 _ _ hgw]; exact hc k hlt 4 (by omega)
      have c5 : wr.cell? ⟨g, k * 9 + 5, none⟩ = some (.string (atF L k).pt) := by rw [(bcell HB.out).1 _ _ hgw]; exact hc k hlt 5 (by omega)
      have c6 : wr.cell? ⟨g, k * 9 + 6, none⟩ = some (.bool (atF L k).sb) := by rw [(bcell HB.out).1 _ _ hgw]; exact hc k hlt 6 (by omega)
      have c7 : wr.cell? ⟨g, k * 9 + 7, none⟩ = some (.bool (atF L k).fl) := by rw [(bcell HB.out).1 _ _ hgw]; exact hc k hlt 7 (by omega)
      have c8 : wr.cell? ⟨g, k * 9 + 8, none⟩ = some (.int .i64 (atF L k).tc) := by rw [(bcell HB.out).1 _ _ hgw]; exact hc k hlt 8 (by omega)
      have HYes : Hid (((atF L k).pa == id) = true → heldF (L.take (k + 1)) id = heldF (L.take k) id ++ [(atF L k).id]) := fun h => by rw [HST.out k hlt, if_pos h]
      have HNo : Hid (((atF L k).pa == id) = false → heldF (L.take (k + 1)) id = heldF (L.take k) id) := fun h => by rw [HST.out k hlt, if_neg (by rw [h]; decide)]
      have hle := HLE.out k
      clear hc
      generalize atF L k = y at *
      generalize hY2 : heldF (L.take (k + 1)) id = Y2 at *
      generalize heldF (L.take k) id = Y at *
      generalize hm : Y.length = m at *
      have HM : Hid (Y.length = m) := hm
      clear hm
      obtain ⟨yid, ypa, ysc, yho, ypo, ypt, ysb, yfl, ytc⟩ := y
      dsimp only at *
      cases hq : (ypa == id) with
      | false =>
        have O5 : Hid ((wr.alloc (.cells #[.int .i64 yid, .int .i64 ypa, .string ysc, .string yho, .int .i64 ypo, .string ypt, .bool ysb, .bool yfl, .int .i64 ytc] 54)).ownsRow w.heap.size 2 1 sl Y2.length (intsV Y2)) := by
          show World.ownsRow _ _ _ _ _ _ _
          rw [HNo.out hq, HM.out]
          exact HO.out.alloc _
        have B5 : Hid (Below w.heap.size w (wr.alloc (.cells #[.int .i64 yid, .int .i64 ypa, .string ysc, .string yho, .int .i64 ypo, .string ypt, .bool ysb, .bool yfl, .int .i64 ytc] 54))) := HB.out.alloc hws _
        clear HYes HNo HO
        go_wp2
        go_roundw
        case rel => exact ⟨k + 1, _, rfl, by omega, by go_num, by rw [hY2]; exact O5, B5⟩
        case measure => simp [intOf]; omega
      | true =>
        have HY2 : Hid (Y2 = Y ++ [yid]) := HYes.out hq
        have hcN : Hid (∀ j u, [Value.int .i64 yid][j]? = some u → ((wr.alloc (.cells #[.int .i64 yid, .int .i64 ypa, .string ysc, .string yho, .int .i64 ypo, .string ypt, .bool ysb, .bool yfl, .int .i64 ytc] 54)).alloc (.cells #[.int .i64 yid] 2)).cell? ((⟨wr.heap.size + 1, 0, none⟩ : Addr).add j) = some u) := by
          have h := cell_one9 (wr.alloc (.cells #[.int .i64 yid, .int .i64 ypa, .string ysc, .string yho, .int .i64 ypo, .string ypt, .bool ysb, .bool yfl, .int .i64 ytc] 54)) (.int .i64 yid) 2
          rw [World.size_alloc] at h
          exact h
        clear HYes HNo
        go_wp2_with (at_builtin; go_must (refine wpList_append_own _ rfl _ _ 58 rfl w.heap.size 2 i0 (.int .i64 0) 1 8 Tryd.underlying58 hi hy0 hy1 hy2 rfl (by decide) _ _ _ rfl ((HO.out.alloc _).alloc _) ⟨wr.heap.size + 1, 0, none⟩ 1 1 [.int .i64 yid] rfl rfl hcN.out (by intro v h; rw [List.mem_singleton] at h; subst h; rfl) (by unfold maxLen; omega) (by omega) (by simp; omega) ?_))
        intro v1 w4 ho1 hg1 hn1
        have hb4 : Below w.heap.size w w4 := ((HB.out.alloc HB.out.size _).alloc (by simp; omega) _).grown hg1 (by simp; omega) (fun j hj => own_base HO.out j hj)
        have O5 : Hid (w4.ownsRow w.heap.size 2 1 v1 Y2.length (intsV Y2)) := by
          show World.ownsRow _ _ _ _ _ _ _
          rw [HY2.out, List.length_append, HM.out]
          unfold intsV
          rw [List.map_append]
          exact ho1
        have B4 : Hid (Below w.heap.size w w4) := hb4
        clear ho1 hg1 hn1 hb4 c0 c1 c2 c3 c4 c5 c6 c7 c8 HO hcN
        go_wp2
        go_roundw
        case rel => exact ⟨k + 1, _, rfl, by omega, by go_num, by rw [hY2]; exact O5, B4⟩
        case measure => simp [intOf]; omega
    · have hkL : k = L.length := by omega
      subst hkL
      have O5 : Hid (wr.ownsRow w.heap.size 2 1 sl (heldF L id).length (intsV (heldF L id))) := by
        show World.ownsRow _ _ _ _ _ _ _
        have h := HO.out
        rw [List.take_length] at h
        exact h
      clear HO
      go_wp2
      go_ret
      exact ⟨_, rfl, O5.out, HB.out⟩
end Go.Proofs.YtclpamjgglfljaaDoor

/- The walk of the program's shutWith: a range over the iterator in each round of a plain loop; the marks that its rounds leave. -/
namespace Go.Proofs.YtclpamjgglfljaaDoor
open Go.RowKit Go.Maps Go.Shelf
attribute [local go_sem] Oper.semAt_some

/-- whether a frame, or one that it is in, is among these -/
def takesF (L : List Fr) (I : List Int) (id : Int) : Bool := (wayF L id).any (fun g => I.contains g.id)
/-- the Ids of those of the first k that are shut -/
def shutI (L : List Fr) (I : List Int) (k : Nat) : List Int := ((L.take k).filter (fun f => takesF L I f.id)).map (fun f => f.id)
theorem shutI_len (L : List Fr) (I : List Int) (k : Nat) : (shutI L I k).length ≤ k := by
  unfold shutI
  rw [List.length_map]
  exact Nat.le_trans (List.length_filter_le _ _) (by rw [List.length_take]; omega)
theorem shutI_step {L : List Fr} {k : Nat} (hk : k < L.length) (I : List Int) : shutI L I (k + 1) = if takesF L I (atF L k).id = true then shutI L I k ++ [(atF L k).id] else shutI L I k := by
  unfold shutI
  rw [List.take_succ_eq_append_getElem hk, List.filter_append, ← atF_get hk, List.map_append]
  cases h : takesF L I (atF L k).id with
  | true => rw [if_pos rfl, List.filter_cons_of_pos (p := fun f : Fr => takesF L I f.id) h, List.filter_nil]; rfl
  | false => rw [if_neg (by decide), List.filter_cons_of_neg (p := fun f : Fr => takesF L I f.id) (by rw [h]; decide), List.filter_nil, List.map_nil, List.append_nil]
/-- the mark of one round's loop -/
def markD (D : Nat) : Deferred := { target := .collected D, args := #[] }
/-- the blocks of the marks: none twice, each as it was laid -/
def MarksI (Ds : List Nat) (w : World) : Prop := Ds.Nodup ∧ ∀ D ∈ Ds, w.heap[D]? = some (.deferred (some []))
theorem MarksI.keep {Ds : List Nat} {W W' : World} (h : MarksI Ds W) (hk : KeepsFrom 0 W W') : MarksI Ds W' :=
  ⟨h.1, fun D hD => hk.same D _ (Nat.zero_le _) (h.2 D hD) rfl⟩
theorem MarksI.below {Ds : List Nat} {W W' : World} (h : MarksI Ds W) (hb : Below W.heap.size W W') : MarksI Ds W' :=
  ⟨h.1, fun D hD => (hb.block D (Array.getElem?_eq_some_iff.1 (h.2 D hD)).1).trans (h.2 D hD)⟩
theorem MarksI.cons {Ds : List Nat} {W : World} (h : MarksI Ds W) {D : Nat} (hD : W.heap[D]? = some (.deferred (some []))) (hn : ∀ E ∈ Ds, E < D) : MarksI (D :: Ds) W :=
  ⟨List.nodup_cons.2 ⟨fun e => absurd (hn D e) (Nat.lt_irrefl _), h.1⟩, fun E hE => by
    rcases List.mem_cons.1 hE with rfl | hE
    · exact hD
    · exact h.2 E hE⟩
theorem MarksI.lt {Ds : List Nat} {W : World} (h : MarksI Ds W) : ∀ D ∈ Ds, D < W.heap.size := fun D hD => (Array.getElem?_eq_some_iff.1 (h.2 D hD)).1
theorem boxed_below {W W' : World} {B : Nat} {t : TypeId} {v : Value} (h : Boxed W B t v) (hb : Below W.heap.size W W') : Boxed W' B t v := (hb.block B h.lt).trans h
theorem row_cells {w w' : World} {base n size : Nat} {e : TypeId} {v : Value} {xs : List Value} (h : w.ownsRow base e size v n xs)
    (hc : ∀ (k : Nat) (o : Obj), w.heap[k]? = some o → o.isCells = true → w'.heap[k]? = some o) : w'.ownsRow base e size v n xs := by
  obtain ⟨h1, h2⟩ := h
  refine ⟨h1, ?_⟩
  rcases h2 with h2 | ⟨g, cap, cur, rfl, hg, hh, r⟩
  · exact .inl h2
  · exact .inr ⟨g, cap, cur, rfl, hg, hc g _ hh rfl, r⟩
/-- a frame on its way out passes the marks -/
theorem leavesM_marks {F : Fence} {n : Nat} {P : Program} {fn : Func} {tmps : Array Value} {R : Ending → World → Prop} (B : Nat) : ∀ (Ds : List Nat) (W : World), MarksI Ds W → (∀ D ∈ Ds, B ≤ D) →
    (∀ W', Below B W W' → (∀ (k : Nat) (o : Obj), W.heap[k]? = some o → o.isCells = true → W'.heap[k]? = some o) → LeavesIn F n P fn tmps R [] .returning W') →
    LeavesInM F n P fn tmps R (Ds.map markD) .returning W
  | [], W, _, _, h => h W (Below.refl _ _) (fun _ _ h _ => h)
  | D :: Ds, W, hm, hB, h => by
    obtain ⟨hn, hh⟩ := hm
    have hD := hh D (List.mem_cons_self ..)
    obtain ⟨hn1, hn2⟩ := List.nodup_cons.1 hn
    refine ⟨by simp, .inl ⟨D, W.putObj D (.deferred none), rfl, run_takeDeferred hD, leavesM_marks B Ds _ ⟨hn2, fun E hE => ?_⟩ (fun E hE => hB E (List.mem_cons_of_mem _ hE)) fun W' hb hc => h W' ?_ ?_⟩⟩
    · rw [World.putObj_heap_other (fun e => hn1 (by rw [← show E = D from by first | exact e | exact e.symm]; exact hE))]
      exact hh E (List.mem_cons_of_mem _ hE)
    · exact Below.trans ((Below.refl B W).grown (grownBy_putObj' W D _) (by have := (Array.getElem?_eq_some_iff.1 hD).1; have := hB D (List.mem_cons_self ..); omega) (fun k e => by cases e; exact hB D (List.mem_cons_self ..))) hb
    · intro k o hk ho
      refine hc k o ?_ ho
      rw [World.putObj_heap_other (fun e => by
        have e' : k = D := by first | exact e | exact e.symm
        subst e'; rw [hD] at hk; cases hk; cases ho)]
      exact hk
theorem cellOne9 (W : World) (v : Value) (t : TypeId) : ∀ j u, [v][j]? = some u → (W.alloc (.cells #[v] t)).cell? ((⟨W.heap.size, 0, none⟩ : Addr).add j) = some u := cell_one9 W v t
set_option maxRecDepth 100000 in
set_option maxHeartbeats 16000000 in
theorem shutWith_any (v sv : Value) (L : List Fr) (I : List Int) (B Bs : Nat) (w : World) (hs : SliceF w B v L) (hL : framesB L = true) (hi9 : SliceN w Bs sv I) (hin : I.length ≤ 1048576) :
    Calls Tryd.prog 34 #[v, sv] w fun e w' => ∃ v', e = .returned v' ∧ w'.ownsRow w.heap.size 2 1 v' (shutI L I L.length).length (intsV (shutI L I L.length)) ∧ Below w.heap.size w w' := by
  have h10 := (framesB_parts hL).1
  obtain ⟨sp, scap, rfl⟩ : ∃ p c, sv = .slice p I.length c := by obtain ⟨p, c, e, -⟩ := hi9; exact ⟨p, c, e⟩
  have HT0 : Hid (∀ W, Below w.heap.size w W → Calls Tryd.prog 58 #[v] W fun e w' => ∃ bm, e = .returned (.map (some bm)) ∧ W.heap.size ≤ bm ∧ TreeIs w' bm 10 L ∧ Below W.heap.size W w') := fun W hb => treeOf_any v L B W (hs.below hb) hL
  have KC : Hid (∀ x W, Below w.heap.size w W → Calls Tryd.prog 56 #[(.slice sp I.length scap), .int .i64 x] W fun e w' => e = .returned (.bool (I.contains x)) ∧ w' = W) := fun x W hb => contains9_any (.slice sp I.length scap) I Bs x W (hi9.below hb) hin
  have HST : Hid (∀ k, k < L.length → shutI L I (k + 1) = if takesF L I (atF L k).id = true then shutI L I k ++ [(atF L k).id] else shutI L I k) := fun k hk => shutI_step hk I
  have HLE : Hid (∀ k, (shutI L I k).length ≤ k) := shutI_len L I
  have HID : Hid (∀ k, k < L.length → 1 ≤ (atF L k).id ∧ (atF L k).id ≤ 1000000) := fun k hk => (ids_of hL k hk).1
  have HL : Hid (framesB L = true) := hL
  obtain ⟨i0, hi, hy0, hy1, hy2⟩ := info_parts infoInt9
  obtain ⟨⟨q, cap, rfl, hg⟩, -⟩ := hs
  have HG : Hid (0 < L.length → ∃ g, q = some ⟨g, 0, none⟩ ∧ g < w.heap.size ∧ ∀ j, j < L.length → ∀ o, o < 9 → w.cell? ⟨g, j * 9 + o, none⟩ = some (frC (atF L j) o)) := fun h0 => by
    obtain ⟨g, e, -, hgw, hc⟩ := hg h0
    exact ⟨g, e, hgw, fun j hj o ho => (hc j hj o ho).1⟩
  have HX0 : Hid (Boxed (w.alloc (.cells #[(.slice sp I.length scap)] 58)) w.heap.size 58 (.slice sp I.length scap)) := Boxed.new _ _ _
  have HB0 : Hid (Below w.heap.size w (w.alloc (.cells #[(.slice sp I.length scap)] 58))) := (Below.refl _ _).alloc (Nat.le_refl _) _
  clear hg hi9 hL
  refine (callsIn_wide (n := 6)).1 ?_
  refine callsIn_of_wp_marks Tryd.func34 rfl trivial ?_ rfl
  simp only [Tryd.ntmps34, List.size_toArray, List.length_cons, List.length_nil, Nat.reduceAdd, Nat.reduceSub, Array.replicate_succ, Array.replicate_zero, List.push_toArray, List.append_toArray, List.nil_append, List.cons_append]
  gi_wp2_with fail
  refine ⟨trivial, ?_⟩
  refine (callsIn_wide.2 (HT0.out _ HB0.out)).mono ?_
  rintro e w1 ⟨bm, rfl, hbm, hm1, hb1⟩
  have HX1 : Hid (Boxed w1 w.heap.size 58 (.slice sp I.length scap)) := boxed_below HX0.out hb1
  have B1 : Hid (Below w.heap.size w w1) := HB0.out.trans (hb1.mono HB0.out.size)
  have HM1 : Hid (TreeIs w1 bm 10 L) := hm1
  clear hb1 hm1 HX0 HB0 HT0 hbm
  gi_wp2_with fail
  obtain ⟨W2, hW2⟩ : ∃ W2, W2 = w1.alloc (.cells #[.slice none 0 0] 58) := ⟨_, rfl⟩
  rw [← hW2]
  have A2 : Below w1.heap.size w1 W2 := by rw [hW2]; exact (Below.refl _ _).alloc (Nat.le_refl _) _
  have hsb2 : Boxed W2 w1.heap.size 58 (.slice none 0 0) := by rw [hW2]; exact Boxed.new _ _ _
  have hib2 : Boxed W2 w.heap.size 58 (.slice sp I.length scap) := boxed_below HX1.out A2
  have hm2 : TreeIs W2 bm 10 L := HM1.out.below A2
  have hB2 : Below w.heap.size w W2 := B1.out.trans (A2.mono B1.out.size)
  have zib : w.heap.size < w1.heap.size := HX1.out.lt
  clear hW2 A2 HX1 HM1 B1
  generalize hqb : w.heap.size = qb at *
  generalize hsbb : w1.heap.size = sb at *
  clear hsbb
  have HSZ : Hid (∀ X : World, Below qb w X → qb ≤ X.heap.size) := fun X h => by rw [← hqb]; exact h.size
  refine wpIn_loop (fun a wr => ∃ (k : Nat) (sl : Value) (Ds : List Nat) (u8 u15 u16 u17 u18 u19 u20 u21 u32 : Value), k ≤ L.length ∧ a = { tmps := #[.slice q L.length cap, (.slice sp I.length scap), undef, .pointer (some ⟨qb, 0, none⟩), .slice none 0 0, .map (some bm), .pointer (some ⟨sb, 0, none⟩), undef, u8, undef, .slice q L.length cap, .map (some bm), .slice q L.length cap, .int .i64 L.length, .int .i64 k, u15, u16, u17, u18, u19, u20, u21, undef, undef, undef, undef, undef, undef, undef, undef, undef, undef, u32, undef], defers := Ds.map markD } ∧
      (Boxed wr qb 58 (.slice sp I.length scap) ∧ Boxed wr sb 58 sl ∧ TreeIs wr bm 10 L) ∧ wr.ownsRow qb 2 1 sl (shutI L I k).length (intsV (shutI L I k)) ∧ MarksI Ds wr ∧ (∀ D ∈ Ds, qb ≤ D) ∧ Below qb w wr) (fun a _ => L.length - (intOf (a.tmps.getD 14 undef)).toNat) ?start ?round
  case start =>
    exact ⟨0, .slice none 0 0, [], undef, undef, undef, undef, undef, undef, undef, undef, undef, Nat.zero_le _, rfl, ⟨hib2, hsb2, hm2⟩, World.ownsRow_nil _ _ _ _, ⟨List.nodup_nil, fun D h => absurd h (by simp)⟩, fun D h => absurd h (by simp), hB2⟩
  case round =>
    clear hsb2 hib2 hm2 hB2
    rintro a wr ⟨k, sl, Ds, u8, u15, u16, u17, u18, u19, u20, u21, u32, hk, rfl, ⟨hib, hsb, htr⟩, hrow, hmk, hDs, hB⟩
    by_cases hlt : k < L.length
    · obtain ⟨g, rfl, hgw, hc⟩ := HG.out (by omega)
      have k0 : (0 : Int) ≤ k := by omega
      have k1 : (k : Int) < L.length := by omega
      have hbc : ∀ o, o < 9 → wr.cell? ⟨g, k * 9 + o, none⟩ = some (frC (atF L k) o) := fun o ho => (hB.cell (p := ⟨g, k * 9 + o, none⟩) (by omega)).trans (hc k hlt o ho)
      have c0 : wr.cell? ⟨g, k * 9, none⟩ = some (.int .i64 (atF L k).id) := hbc 0 (by omega)
      have c1 : wr.cell? ⟨g, k * 9 + 1, none⟩ = some (.int .i64 (atF L k).pa) := hbc 1 (by omega)
      have c2 : wr.cell? ⟨g, k * 9 + 2, none⟩ = some (.string (atF L k).sc) := hbc 2 (by omega)
      have c3 : wr.cell? ⟨g, k * 9 + 3, none⟩ = some (.string (atF L k).ho) := hbc 3 (by omega)
      have c4 : wr.cell? ⟨g, k * 9 + 4, none⟩ = some (.int .i64 (atF L k).po) := hbc 4 (by omega)
      have c5 : wr.cell? ⟨g, k * 9 + 5, none⟩ = some (.string (atF L k).pt) := hbc 5 (by omega)
      have c6 : wr.cell? ⟨g, k * 9 + 6, none⟩ = some (.bool (atF L k).sb) := hbc 6 (by omega)
      have c7 : wr.cell? ⟨g, k * 9 + 7, none⟩ = some (.bool (atF L k).fl) := hbc 7 (by omega)
      have c8 : wr.cell? ⟨g, k * 9 + 8, none⟩ = some (.int .i64 (atF L k).tc) := hbc 8 (by omega)
      have hST := HST.out k hlt
      have hTK : takesF L I (atF L k).id = (wayF L (atF L k).id).any (fun g => I.contains g.id) := rfl
      have hle := HLE.out k
      obtain ⟨hi1, hi2⟩ := HID.out k hlt
      have HS1 : Hid (shutI L I (k + 1) = if takesF L I (atF L k).id = true then shutI L I k ++ [(atF L k).id] else shutI L I k) := hST
      have HTK : Hid (takesF L I (atF L k).id = (wayF L (atF L k).id).any (fun g => I.contains g.id)) := hTK
      clear hc hbc hST hTK
      generalize takesF L I (atF L k).id = tk at *
      generalize atF L k = y at *
      generalize hY2 : shutI L I (k + 1) = Y2 at *
      generalize shutI L I k = Y at *
      generalize hm : Y.length = m at *
      have HM : Hid (Y.length = m) := hm
      have HY2 : Hid (shutI L I (k + 1) = Y2) := hY2
      clear hm hY2
      obtain ⟨yid, ypa, ysc, yho, ypo, ypt, ysb, yfl, ytc⟩ := y
      dsimp only at *
      have Hib : Hid (Boxed wr qb 58 (.slice sp I.length scap)) := hib
      have Hsb : Hid (Boxed wr sb 58 sl) := hsb
      have Htr : Hid (TreeIs wr bm 10 L) := htr
      have Hrow : Hid (wr.ownsRow qb 2 1 sl m (intsV Y)) := hrow
      have Hmk : Hid (MarksI Ds wr) := hmk
      have HB : Hid (Below qb w wr) := hB
      have HDs : Hid (∀ D ∈ Ds, qb ≤ D) := hDs
      clear hib hsb htr hrow hmk hB hDs
      gi_wp2_with fail
      refine ⟨trivial, ?_⟩
      refine (callsIn_wide.2 (outward_any bm yid _)).mono ?_
      rintro e w3 ⟨rfl, rfl⟩
      gi_wp2_with fail
      obtain ⟨W4, hW4⟩ : ∃ W4, W4 = ((wr.alloc (.cells #[.int .i64 yid, .int .i64 ypa, .string ysc, .string yho, .int .i64 ypo, .string ypt, .bool ysb, .bool yfl, .int .i64 ytc] 54)).alloc (.cells #[.map (some bm)] 79)).alloc (.cells #[.int .i64 yid] 2) := ⟨_, rfl⟩
      rw [← hW4]
      have A4 : Below wr.heap.size wr W4 := by rw [hW4]; exact (((Below.refl _ _).alloc (Nat.le_refl _) _).alloc (by simp) _).alloc (by simp; omega) _
      have z4 : W4.heap.size = wr.heap.size + 1 + 1 + 1 := by rw [hW4]; simp
      have ht4 : W4.cell? ⟨wr.heap.size + 1, 0, none⟩ = some (.map (some bm)) := by rw [hW4]; exact (cell_under9 _ _ _ _ (by simp)).trans (by simp)
      have hi4 : W4.cell? ⟨wr.heap.size + 1 + 1, 0, none⟩ = some (.int .i64 yid) := by rw [hW4]; exact (World.cell?_alloc_at _ _ _ _ (by simp)).trans rfl
      have hf4 : W4.cell? ⟨wr.heap.size, 0, none⟩ = some (.int .i64 yid) := by rw [hW4]; exact (cell_under9 _ _ _ _ (by simp; omega)).trans ((cell_under9 _ _ _ _ (by simp)).trans (by simp))
      have hib4 : Boxed W4 qb 58 (.slice sp I.length scap) := boxed_below Hib.out A4
      have hsb4 : Boxed W4 sb 58 sl := boxed_below Hsb.out A4
      have htr4 : TreeIs W4 bm 10 L := Htr.out.below A4
      have hrow4 : W4.ownsRow qb 2 1 sl m (intsV Y) := ownR_below Hrow.out A4
      have hmk4 : MarksI Ds W4 := Hmk.out.below A4
      have hB4 : Below qb w W4 := HB.out.trans (A4.mono (HSZ.out _ HB.out))
      have zqs : qb < sb := zib
      have zsb : sb < wr.heap.size := Hsb.out.lt
      have zbm : bm < wr.heap.size := Htr.out.lt
      have hL := HL.out
      clear hW4 A4 Hib Hsb Htr Hrow Hmk HB c0 c1 c2 c3 c4 c5 c6 c7 c8
      generalize hfb : wr.heap.size = fb at *
      generalize hbt : fb + 1 = bt at *
      generalize hbi : bt + 1 = bi at *
      refine wpIn_rangeFunc_ownH rfl (by omega) (gf := 76) (lb := #[.pointer (some ⟨bt, 0, none⟩), .pointer (some ⟨bi, 0, none⟩)]) rfl trivial (enters_of Tryd.func76 (by kernel_rfl) rfl)
        (outward_stops (6 - 1) (by omega) bt bi bm none L hL yid (by omega) (by omega) W4 ht4 hi4 htr4 (by omega) (by omega) (fun e => by cases e) (fun e => by cases e) (fun r e => by cases e)) (fun h k => KpF.trans h k) (KpF.put (Nat.le_refl _)) (Below.refl _ _) (fun _ => rfl)
        (fun (pre : List Fr) W => Below W4.heap.size W4 W ∧ ∀ a ∈ pre, I.contains a.id = false)
        (fun c (pre : List Fr) W => (c = .exit 2 ∧ ∃ a ∈ pre, I.contains a.id = true) ∧ (∃ u, Boxed W sb 58 u ∧ W.ownsRow qb 2 1 u (m + 1) (intsV (Y ++ [yid])) ∧ True) ∧ Boxed W qb 58 (.slice sp I.length scap) ∧ KeepsFrom 0 W4 W ∧ Below qb w W)
        (OwnFrom.and (ownFrom_below (Nat.le_refl _) (Nat.le_refl _)) (ownFrom_pure _ _))
        (fun c => OwnFrom.and (ownFrom_pure _ (fun (pre : List Fr) => c = .exit 2 ∧ ∃ a ∈ pre, I.contains a.id = true)) (OwnFrom.and (Own.from (holdsRow_own qb sb 58 2 1 (fun _ => m + 1) (fun _ => intsV (Y ++ [yid])) (fun _ _ => True)) _) (OwnFrom.and (Own.from (boxed_own qb 58 (fun _ => (.slice sp I.length scap))) _) (OwnFrom.and (ownFrom_keepsFrom (Nat.le_refl _)) (ownFrom_below (Nat.le_of_eq hqb.symm) (by omega))))))
        ⟨Below.refl _ _, fun a h => absurd h (by simp)⟩
        (fun x a' W => ∃ (Bx : Nat) (x15 x16 x17 x18 x19 x20 x21 x22 : Value), W4.heap.size ≤ Bx ∧ BoxV W Bx (frVals x) ∧ a' = { tmps := #[.slice (some ⟨g, 0, none⟩) L.length cap, (.slice sp I.length scap), undef, .pointer (some ⟨qb, 0, none⟩), .slice none 0 0, .map (some bm), .pointer (some ⟨sb, 0, none⟩), undef, .pointer (some ⟨fb, 0, none⟩), .pointer (some ⟨Bx, 0, none⟩), .slice (some ⟨g, 0, none⟩) L.length cap, .map (some bm), .slice (some ⟨g, 0, none⟩) L.length cap, .int .i64 L.length, .int .i64 k, x15, x16, x17, x18, x19, x20, x21, x22, undef, undef, undef, undef, undef, undef, undef, undef, undef, u32, undef], defers := [] })
        (fun x a' s X Y row hs hg hr => by obtain ⟨Bx, x15, x16, x17, x18, x19, x20, x21, x22, h1, h2, h3⟩ := hs; exact ⟨Bx, x15, x16, x17, x18, x19, x20, x21, x22, h1, h2.kept hg (fun r e => (hr r e).2), h3⟩) ?assign ?body ?done ?stop
      case assign =>
        rintro l pre x W K ⟨h1, h2⟩ hK
        have hx := boxV_new W (frVals x) 54
        unfold frVals frV at *
        dsimp only at *
        gi_wp2
        exact hK _ _ ((KeepsOthers.alloc _ _).from _) (KpF.of_below ((Below.refl _ _).alloc (Nat.le_refl _) _)) ⟨h1.alloc h1.size _, h2⟩ ⟨W.heap.size, _, _, _, _, _, _, _, _, h1.size, hx, rfl⟩
      case body =>
        rintro l pre x a' W hl ⟨r, hr⟩ ⟨h1, h2⟩ ⟨Bx, x15, x16, x17, x18, x19, x20, x21, x22, hBx, bX, rfl⟩ hlt2
        have H1 : Hid (Below W4.heap.size W4 W) := h1
        have H2 : Hid (∀ a ∈ pre, I.contains a.id = false) := h2
        have hBw : Below qb w W := hB4.trans (h1.mono (HSZ.out _ hB4))
        have HBw : Hid (Below qb w W) := hBw
        have hibW : Boxed W qb 58 (.slice sp I.length scap) := boxed_below hib4 h1
        have hsbW : Boxed W sb 58 sl := boxed_below hsb4 h1
        have hrowW : W.ownsRow qb 2 1 sl m (intsV Y) := ownR_below hrow4 h1
        have HibW : Hid (Boxed W qb 58 (.slice sp I.length scap)) := hibW
        have HsbW : Hid (Boxed W sb 58 sl) := hsbW
        have HrowW : Hid (W.ownsRow qb 2 1 sl m (intsV Y)) := hrowW
        have ib0 : W.cell? ⟨qb, 0, none⟩ = some (.slice sp I.length scap) := hibW.cell
        have sb0 : W.cell? ⟨sb, 0, none⟩ = some sl := hsbW.cell
        have fb0 : W.cell? ⟨fb, 0, none⟩ = some (.int .i64 yid) := by rw [h1.cell (p := ⟨fb, 0, none⟩) (show fb < W4.heap.size by omega)]; exact hf4
        have KS : Hid (Calls Tryd.prog 56 #[(.slice sp I.length scap), .int .i64 x.id] W fun e w' => e = .returned (.bool (I.contains x.id)) ∧ w' = W) := KC.out x.id W hBw
        have zW : qb ≤ W.heap.size := Nat.le_trans (Nat.le_of_lt (show qb < W4.heap.size by omega)) h1.size
        clear h1 h2 hBw hibW hsbW hrowW hr hlt2
        obtain ⟨xid, xpa, xsc, xho, xpo, xpt, xsb, xfl, xtc⟩ := x
        unfold frVals at bX
        dsimp only at *
        have x0 : W.cell? ⟨Bx, 0, none⟩ = some (.int .i64 xid) := bX.at (i := 0) rfl
        clear bX
        gi_wp2_with fail
        refine ⟨trivial, ?_⟩
        refine (CallsIn.inRound l (callsIn_wide.2 KS.out)).mono ?_
        rintro e w5 ⟨rfl, h5⟩
        have h6 := h5.symm
        subst h6
        cases hsx : I.contains xid with
        | true =>
          have HSX : Hid (I.contains xid = true) := hsx
          clear hsx
          gi_wp2_with (gi_at_builtin; refine wpListIn_append_own _ rfl _ _ 58 rfl qb 2 i0 (.int .i64 0) 1 8 Tryd.underlying58 hi hy0 hy1 hy2 rfl (by decide) _ _ _ rfl (HrowW.out.alloc _) ⟨W.heap.size, 0, none⟩ 1 1 [.int .i64 yid] rfl rfl (cellOne9 _ _ _) (by intro v h; rw [List.mem_singleton] at h; subst h; rfl) (by unfold maxLen; omega) (by omega) (by simp; omega) ?_; intro v' w1 hown' hgrow _; obtain ⟨g', cap', rfl⟩ := ownsRow_succ hown'; obtain ⟨hv1, hv2, hr2, hk2, hb2⟩ := HsbW.out.appended (by decide) HrowW.out zW (by omega) hown' hgrow; have hiw := ((HibW.out.alloc _).kept hgrow (HibW.out.not_row (by decide) HrowW.out)); have hc1 := hv1.cell; have hf1 := hv1.frozen)
          refine ⟨hk2.from _, ⟨rfl, ⟨xid, xpa, xsc, xho, xpo, xpt, xsb, xfl, xtc⟩, by simp, HSX.out⟩, ⟨_, hv2, ?_, trivial⟩, Boxed.other hiw (by omega) _, ⟨Nat.le_trans H1.out.size hk2.size, fun k o _ hk ho => hk2.same k o ((H1.out.block k (Array.getElem?_eq_some_iff.1 hk).1).trans hk) ho⟩, HBw.out.trans hb2⟩
          unfold intsV
          rw [List.map_append]
          exact hr2
        | false =>
          have HSX : Hid (I.contains xid = false) := hsx
          clear hsx
          gi_wp2
          refine ⟨KeepsFrom.refl _ _, KpF.refl _ _ _, H1.out, fun a ha => ?_⟩
          rcases List.mem_append.1 ha with ha | ha
          · exact H2.out a ha
          · rw [List.mem_singleton] at ha; subst ha; exact HSX.out
      case done =>
        rintro D ys W hD hys ⟨h1, h2⟩ hK
        have HTF : Hid (tk = false) := by
          show tk = false
          rw [HTK.out, ← hys, List.any_eq_false]
          intro a ha
          rw [h2 a ha]; decide
        have HR : Hid (Below W4.heap.size W4 W) := h1
        have HKD : Hid (W.heap[D]? = some (.deferred (some []))) := hK
        clear h1 h2 hK hys
        gi_wp2
        refine ⟨⟨k + 1, sl, D :: Ds, _, _, _, _, _, _, _, _, _, by omega, rfl, ⟨boxed_below hib4 HR.out, boxed_below hsb4 HR.out, htr4.below HR.out⟩, ?_, MarksI.cons (hmk4.below HR.out) HKD.out (fun E hE => Nat.lt_of_lt_of_le (hmk4.lt E hE) hD), ?_, hB4.trans (HR.out.mono (HSZ.out _ hB4))⟩, ?_⟩
        · rw [HY2.out, HS1.out, HTF.out, if_neg (by decide), HM.out]
          exact ownR_below hrow4 HR.out
        · intro E hE
          rcases List.mem_cons.1 hE with rfl | hE
          · omega
          · exact HDs.out E hE
        · simp [intOf]; omega
      case stop =>
        rintro D c pre W hD hpre ⟨⟨rfl, a, ha, hsa⟩, ⟨u, hu1, hu2, -⟩, h3, h4, h5⟩ hK
        have HTT : Hid (tk = true) := by
          show tk = true
          rw [HTK.out, List.any_eq_true]
          exact ⟨a, hpre.subset ha, hsa⟩
        have HKD : Hid (W.heap[D]? = some (.deferred (some []))) := hK
        clear ha hsa hpre hK
        gi_wp2
        refine ⟨⟨k + 1, u, D :: Ds, _, _, _, _, _, _, _, _, _, by omega, rfl, ⟨h3, hu1, htr4.of_block (by
          have hz := htr4
          obtain ⟨DD, ⟨es, clock, h0, _⟩, _⟩ := hz
          rw [h0]; exact h4.same bm _ (Nat.zero_le _) h0 rfl)⟩, ?_, MarksI.cons (hmk4.keep h4) HKD.out (fun E hE => Nat.lt_of_lt_of_le (hmk4.lt E hE) hD), ?_, h5⟩, ?_⟩
        · rw [HY2.out, HS1.out, HTT.out, if_pos rfl, List.length_append, HM.out]
          exact hu2
        · intro E hE
          rcases List.mem_cons.1 hE with rfl | hE
          · omega
          · exact HDs.out E hE
        · simp [intOf]; omega
    · have hkL : k = L.length := by omega
      subst hkL
      have sb0 : wr.cell? ⟨sb, 0, none⟩ = some sl := hsb.cell
      have Hib : Hid (Boxed wr qb 58 (.slice sp I.length scap)) := hib
      have Hrow : Hid (wr.ownsRow qb 2 1 sl (shutI L I L.length).length (intsV (shutI L I L.length))) := hrow
      have Hmk : Hid (MarksI Ds wr) := hmk
      have HB : Hid (Below qb w wr) := hB
      have HDs : Hid (∀ D ∈ Ds, qb ≤ D) := hDs
      clear hib hsb htr hrow hmk hB hDs
      gi_wp2
      refine leavesM_marks qb Ds wr Hmk.out HDs.out fun W' hb hc => ?_
      exact ⟨_, results_tmp rfl _ _ _, sl, rfl, by rw [hqb]; exact row_cells Hrow.out hc, by rw [hqb]; exact HB.out.trans hb⟩
end Go.Proofs.YtclpamjgglfljaaDoor
