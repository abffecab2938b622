/- 3 of this claim's texts, one behind the other. -/
import Derived.Test.YtclpamjgglfljaaDoorPart1
import Derived.Laws.ResultCell
import Derived.Maps.Own
import Derived.Maps.OwnOps
import Derived.Maps.OwnSet
import Derived.Maps.Views
/- The walks of the specification's OriginRight and OriginOf. -/
namespace Go.Proofs.YtclpamjgglfljaaDoor
open Go.RowKit

/-- an Origin, as a value -/
def originV (sc ho : ByteArray) (po no : Int) : Value := .agg #[.string sc, .string ho, .int .i64 po, .int .i64 no]
def originB (sc ho : ByteArray) (po no : Int) : Bool := if no = 0 then placeB sc ho po else (decide (1 ≤ no) && decide (no ≤ 1000000)) && sc.toList.isEmpty && ho.toList.isEmpty && (po == 0)
def originT (sc ho : ByteArray) (po no : Int) : ByteArray := if originB sc ho po no = true then (if no = 0 then placeT sc ho po else ⟨#[110, 117, 108, 108, 35]⟩ ++ decB no) else ⟨#[]⟩

set_option maxRecDepth 10000 in
set_option maxHeartbeats 400000 in
theorem specOriginOf_any (sc ho pa : ByteArray) (po : Int) (w : World) :
    Calls Tryd.prog 47 #[urlV sc ho pa po] w fun e w' => e = .returned (if urlB sc ho pa po = true then originV sc ho po 0 else originV ⟨#[]⟩ ⟨#[]⟩ 0 0) ∧ Below w.heap.size w w' := by
  have H1 := fun W => specUrlRight_any sc ho pa po W
  unfold urlV at H1 ⊢
  cases hu : urlB sc ho pa po with
  | true =>
    rw [hu] at H1
    rw [if_pos rfl]
    have G1 : Hid (∀ W, Calls Tryd.prog 26 #[.agg #[.string sc, .string ho, .int .i64 po, .string pa]] W fun e w' => e = .returned (.bool true) ∧ Below W.heap.size W w') := H1
    clear H1 hu
    go_enter Tryd.func47, Tryd.ntmps47
    go_wp2_with fail
    refine (G1.out _).mono ?_
    rintro e w1 ⟨rfl, hb⟩
    obtain ⟨hc, hf⟩ := bcell hb
    go_wp2
    refine bodyPost_ret (v := originV sc ho po 0) (by simp [originV, results, Tryd.results47, go_sem, hc]) rfl ⟨rfl, ?_⟩
    exact Below.setCell (Below.setCell (Below.setCell (Below.setCell ((((Below.refl _ _).alloc (Nat.le_refl _) _).alloc (by simp) _).trans (hb.mono (by simp; omega))) (by simp) _) (by simp) _) (by simp) _) (by simp) _
  | false =>
    rw [hu] at H1
    rw [if_neg (by simp)]
    have G1 : Hid (∀ W, Calls Tryd.prog 26 #[.agg #[.string sc, .string ho, .int .i64 po, .string pa]] W fun e w' => e = .returned (.bool false) ∧ Below W.heap.size W w') := H1
    clear H1 hu
    go_enter Tryd.func47, Tryd.ntmps47
    go_wp2_with fail
    refine (G1.out _).mono ?_
    rintro e w1 ⟨rfl, hb⟩
    obtain ⟨hc, hf⟩ := bcell hb
    go_wp2
    refine bodyPost_ret (v := originV ⟨#[]⟩ ⟨#[]⟩ 0 0) (by simp [originV, results, Tryd.results47, go_sem, hc]) rfl ⟨rfl, ?_⟩
    exact Below.setCell (Below.setCell (Below.setCell (Below.setCell ((((Below.refl _ _).alloc (Nat.le_refl _) _).alloc (by simp) _).trans (hb.mono (by simp; omega))) (by simp) _) (by simp) _) (by simp) _) (by simp) _
end Go.Proofs.YtclpamjgglfljaaDoor

/- The origin of a frame, as a plain function. -/
namespace Go.Proofs.YtclpamjgglfljaaDoor
open Go.RowKit

/-- an origin's fields -/
structure Og where
  sc : ByteArray
  ho : ByteArray
  po : Int
  no : Int
def ogV (o : Og) : Value := .agg #[.string o.sc, .string o.ho, .int .i64 o.po, .int .i64 o.no]
def ogNone : Og := ⟨⟨#[]⟩, ⟨#[]⟩, 0, 0⟩
/-- the origin of a url's fields -/
def ogUrl (sc ho pt : ByteArray) (po : Int) : Og := if urlB sc ho pt po = true then ⟨sc, ho, po, 0⟩ else ogNone
theorem ogUrl_V (sc ho pt : ByteArray) (po : Int) : (if urlB sc ho pt po = true then originV sc ho po 0 else originV ⟨#[]⟩ ⟨#[]⟩ 0 0) = ogV (ogUrl sc ho pt po) := by
  unfold ogUrl
  split <;> rfl
def ogF (f : Fr) : Og := if f.sb = true then ⟨⟨#[]⟩, ⟨#[]⟩, 0, f.id⟩ else ogUrl f.sc f.ho f.pt f.po
/-- the frame that the number leads to -/
def getF (L : List Fr) (id : Int) : Fr := atF L (whF L id).toNat
def hereF (L : List Fr) (id : Int) : Bool := decide (0 ≤ whF L id)
def orgF (L : List Fr) (id : Int) : Og := if (hereF L id && framesB L) = true then ogF (getF L id) else ogNone
theorem hereF_at {L : List Fr} {id : Int} (h : hereF L id = true) : (whF L id).toNat < L.length ∧ (whF L id) = ((whF L id).toNat : Int) := by
  unfold hereF at h
  rw [decide_eq_true_eq] at h
  rcases whF_cases L id with ⟨k, hk, e, -⟩ | ⟨e, -⟩
  · rw [e]; simp; exact hk
  · omega
end Go.Proofs.YtclpamjgglfljaaDoor

/- The tree of frames: a map from Ids to frames and what they lie in, told by the list; those around a frame, from it outward. -/
namespace Go.Proofs.YtclpamjgglfljaaDoor
open Go.RowKit Go.Maps

/-- how a branch in the map reads -/
def brV (f : Fr) (i : Int) : Value := .agg #[.int .i64 f.id, .int .i64 f.pa, .string f.sc, .string f.ho, .int .i64 f.po, .string f.pt, .bool f.sb, .bool f.fl, .int .i64 f.tc, .int .i64 i]
def brElem (v : Value) : Option (DataW (Fr × Int) × List MemPlace) :=
  match v with
  | .agg cs => (match cs.toList with
    | [.int .i64 a, .int .i64 b, .string c, .string d, .int .i64 e, .string f, .bool g, .bool h, .int .i64 i, .int .i64 j] => some (.held (⟨a, b, c, d, e, f, g, h, i⟩, j), [])
    | _ => none)
  | _ => none
theorem brElem_mk (f : Fr) (i : Int) : brElem (brV f i) = some (.held (f, i), []) := rfl
theorem brElem_inv {v : Value} {y : DataW (Fr × Int) × List MemPlace} (h : brElem v = some y) : ∃ (f : Fr) (i : Int), v = brV f i ∧ y = (.held (f, i), []) := by
  cases v
  case agg cs =>
    unfold brElem at h
    simp only at h
    split at h
    · rename_i a b c d e f g i j k e1
      refine ⟨⟨a, b, c, d, e, f, g, i, j⟩, k, ?_, (Option.some.inj h).symm⟩
      exact congrArg Value.agg (Array.toList_inj.1 e1)
    · cases h
  all_goals (unfold brElem at h; cases h)
theorem int9Keyed : Keyed Tryd.prog 2 := int_keyed Tryd.underlying2
theorem int9_wf {id : Int} (h1 : -9223372036854775808 ≤ id) (h2 : id ≤ 9223372036854775807) : (Lit.int .i64 id).wf = true := by
  have e1 : IntKind.i64.min = -9223372036854775808 := by decide
  have e2 : IntKind.i64.max = 9223372036854775807 := by decide
  simp [Lit.wf]; omega
theorem keyOf9 {id : Int} (h1 : -9223372036854775808 ≤ id) (h2 : id ≤ 9223372036854775807) : keyOf Tryd.prog 2 (.int .i64 id) = some (.int .i64 id) := keyOf_int_mk Tryd.underlying2 (int9_wf h1 h2)
theorem litInt_inj {a b : Int} (h : (Lit.int .i64 a) = Lit.int .i64 b) : a = b := by injection h
/-- Ids in their range, none twice -/
def idsF (L : List Fr) : Prop := ∀ j, j < L.length → (1 ≤ (atF L j).id ∧ (atF L j).id ≤ 1000000) ∧ ∀ i, i < j → (atF L i).id < (atF L j).id
theorem hereF_iff (L : List Fr) (id : Int) : hereF L id = true ↔ ∃ k, k < L.length ∧ (atF L k).id = id := by
  unfold hereF
  rw [decide_eq_true_iff]
  rcases whF_cases L id with ⟨k, hk, e, h, -⟩ | ⟨e, h⟩
  · rw [e]; exact ⟨fun _ => ⟨k, hk, h⟩, fun _ => by omega⟩
  · rw [e]; exact ⟨fun h' => by omega, fun ⟨k, hk, h'⟩ => absurd h' (h k hk)⟩
theorem getF_at {L : List Fr} (hi : idsF L) {k : Nat} (hk : k < L.length) : whF L (atF L k).id = (k : Int) ∧ getF L (atF L k).id = atF L k := by
  have e : whF L (atF L k).id = (k : Int) := whF_is hk rfl (fun j hj => by have := (hi k hk).2 j hj; omega)
  exact ⟨e, by unfold getF; rw [e]; rfl⟩
/-- block bm is a map of at most N branches, those of the list -/
def TreeIs (w : World) (bm N : Nat) (L : List Fr) : Prop :=
  ∃ D : DataW (Fr × Int), w.ownsMap Tryd.prog 2 brElem bm N D ∧ ∀ id : Int, (Maps.has D (.int .i64 id) = hereF L id) ∧ (hereF L id = true → ∀ zd, D.atKey (.int .i64 id) zd = .held (getF L id, (getF L id).pa))
theorem TreeIs.of_block {w w' : World} {bm N : Nat} {L : List Fr} (h : TreeIs w bm N L) (hb : w'.heap[bm]? = w.heap[bm]?) : TreeIs w' bm N L := by
  obtain ⟨D, ⟨es, clock, h0, h1⟩, h2⟩ := h
  exact ⟨D, ⟨es, clock, by rw [hb]; exact h0, h1⟩, h2⟩
theorem TreeIs.lt {w : World} {bm N : Nat} {L : List Fr} (h : TreeIs w bm N L) : bm < w.heap.size := by
  obtain ⟨D, h1, _⟩ := h; exact h1.lt
theorem TreeIs.below {w w' : World} {bm N : Nat} {L : List Fr} (h : TreeIs w bm N L) (hb : Below w.heap.size w w') : TreeIs w' bm N L := h.of_block (hb.block bm h.lt)
theorem TreeIs.mono {w : World} {bm N N' : Nat} {L : List Fr} (h : TreeIs w bm N L) (hN : N ≤ N') : TreeIs w bm N' L := by
  obtain ⟨D, h1, h2⟩ := h; exact ⟨D, h1.mono hN, h2⟩
theorem TreeIs.ne {w : World} {bm N b o : Nat} {v : Value} {L : List Fr} (h : TreeIs w bm N L) (hc : w.cell? ⟨b, o, none⟩ = some v) : b ≠ bm := by
  rintro rfl
  obtain ⟨D, ⟨es, clock, h0, _⟩, _⟩ := h
  simp [World.cell?, h0] at hc
theorem tree_made (w : World) : TreeIs (w.alloc (.map #[] 0)) w.heap.size 0 [] :=
  ⟨.map [], World.ownsMap_made w _ _ _, fun id => ⟨by rfl, fun h => by cases h⟩⟩
theorem take_ids {L : List Fr} (h : idsF L) (k : Nat) : idsF (L.take k) := by
  intro j hj
  have hj1 : j < L.length := by rw [List.length_take] at hj; omega
  have hjk : j < k := by rw [List.length_take] at hj; omega
  obtain ⟨h1, h2⟩ := h j hj1
  have e : ∀ i, i ≤ j → atF (L.take k) i = atF L i := fun i hi => by
    rw [atF_get (by rw [List.length_take]; omega), atF_get (by omega), List.getElem_take]
  rw [e j (Nat.le_refl _)]
  exact ⟨h1, fun i hi => by rw [e i (Nat.le_of_lt hi)]; exact h2 i hi⟩
theorem take_here {L : List Fr} {k : Nat} (hk : k ≤ L.length) (id : Int) : hereF (L.take k) id = true ↔ ∃ j, j < k ∧ (atF L j).id = id := by
  rw [hereF_iff]
  constructor
  · rintro ⟨j, hj, e⟩
    rw [List.length_take] at hj
    exact ⟨j, by omega, by rw [← e, atF_take hk (by omega)]⟩
  · rintro ⟨j, hj, e⟩
    exact ⟨j, by rw [List.length_take]; omega, by rw [atF_take hk hj]; exact e⟩
theorem take_get {L : List Fr} (hi : idsF L) {k j : Nat} (hk : k ≤ L.length) (hj : j < k) : getF (L.take k) (atF L j).id = atF L j := by
  have h := (getF_at (take_ids hi k) (k := j) (by rw [List.length_take]; omega)).2
  rw [atF_take hk hj] at h
  exact h
theorem tree_put {w' : World} {bm N : Nat} {L : List Fr} {D : DataW (Fr × Int)} {k : Nat} (hi : idsF L) (hk : k < L.length) (hD : IsMap D)
    (h2 : ∀ id : Int, (Maps.has D (.int .i64 id) = hereF (L.take k) id) ∧ (hereF (L.take k) id = true → ∀ zd, D.atKey (.int .i64 id) zd = .held (getF (L.take k) id, (getF (L.take k) id).pa)))
    (h1 : w'.ownsMap Tryd.prog 2 brElem bm N (D.put (.int .i64 (atF L k).id) (.held (atF L k, (atF L k).pa)))) : TreeIs w' bm N (L.take (k + 1)) := by
  refine ⟨_, h1, fun id => ?_⟩
  by_cases e : id = (atF L k).id
  · subst e
    have hh : hereF (L.take (k + 1)) (atF L k).id = true := (take_here (by omega) _).2 ⟨k, by omega, rfl⟩
    refine ⟨by rw [has_put_same hD (by trivial), hh], fun _ zd => ?_⟩
    rw [atKey_put_same hD (by trivial), take_get hi (by omega) (by omega)]
  · have hne : (Lit.int .i64 id) ≠ Lit.int .i64 (atF L k).id := fun h => e (litInt_inj h)
    have hh : hereF (L.take (k + 1)) id = hereF (L.take k) id := by
      rw [Bool.eq_iff_iff, take_here (by omega), take_here (by omega)]
      constructor
      · rintro ⟨j, hj, e'⟩
        by_cases ej : j = k
        · subst ej; exact absurd e'.symm e
        · exact ⟨j, by omega, e'⟩
      · rintro ⟨j, hj, e'⟩; exact ⟨j, by omega, e'⟩
    refine ⟨by rw [has_put_other hne, hh]; exact (h2 id).1, fun h zd => ?_⟩
    rw [hh] at h
    rw [atKey_put_other hne, (h2 id).2 h zd]
    obtain ⟨j, hj, rfl⟩ := (take_here (by omega) id).1 h
    rw [take_get hi (by omega) hj, take_get hi (by omega) (by omega)]
/-- of right frames -/
theorem ids_of {L : List Fr} (h : framesB L = true) : idsF L := by
  obtain ⟨h10, hok⟩ := framesB_parts h
  have step : ∀ j, j < L.length → (1 ≤ (atF L j).id ∧ (atF L j).id ≤ 1000000) := fun j hj => by
    have h1 := hok j hj
    have h2 := lastF_ge (L := L) (k := j) (by omega) (fun i hi => hok i (by omega))
    have h3 := okF_time h1
    unfold okF at h1
    simp only [Bool.and_eq_true, decide_eq_true_eq] at h1
    omega
  intro j hj
  refine ⟨step j hj, ?_⟩
  induction j with
  | zero => intro i hi; omega
  | succ m ih =>
    intro i hi
    have h1 := hok (m + 1) hj
    unfold okF at h1
    rw [lastF_succ (by omega)] at h1
    simp only [Bool.and_eq_true, decide_eq_true_eq] at h1
    by_cases e : i = m
    · subst e; exact h1.1.2
    · exact Int.lt_trans (ih (by omega) i (by omega)) h1.1.2
theorem parent_ahead {L : List Fr} (h : framesB L = true) {k : Nat} (hk : k < L.length) : whF L (atF L k).pa < (k : Int) := by
  have hi := ids_of h
  have h1 := (framesB_parts h).2 k hk
  unfold okF at h1
  simp only [Bool.and_eq_true] at h1
  have h2 := h1.2
  unfold holdF at h2
  rw [Bool.or_eq_true, beq_iff_eq, decide_eq_true_eq] at h2
  rcases h2 with h2 | h2
  · rw [h2, whF_no (fun j hj => by have := (hi j hj).1.1; omega)]; omega
  · rcases whF_cases (L.take k) (atF L k).pa with ⟨j, hj, e, e1, e2⟩ | ⟨e, -⟩
    · rw [List.length_take] at hj
      rw [atF_take (by omega) (by omega)] at e1
      rw [← e1, (getF_at hi (by omega)).1]; omega
    · omega
/-- those around a frame, from it outward -/
def outF (L : List Fr) : Nat → Int → List Fr
  | 0, _ => []
  | n + 1, id => if hereF L id = true then getF L id :: outF L n (getF L id).pa else []
theorem here_wh {L : List Fr} {id : Int} (h : hereF L id = true) : ∃ k, k < L.length ∧ whF L id = (k : Int) ∧ getF L id = atF L k ∧ (atF L k).id = id := by
  unfold hereF at h
  rw [decide_eq_true_eq] at h
  rcases whF_cases L id with ⟨k, hk, e, e1, -⟩ | ⟨e, -⟩
  · exact ⟨k, hk, e, by unfold getF; rw [e]; rfl, e1⟩
  · omega
theorem parent_less {L : List Fr} (h : framesB L = true) {id : Int} (hh : hereF L id = true) : whF L (getF L id).pa < whF L id := by
  obtain ⟨k, hk, e, e1, -⟩ := here_wh hh
  rw [e, e1]; exact parent_ahead h hk
theorem outF_more {L : List Fr} (h : framesB L = true) : ∀ (n : Nat) (id : Int), whF L id < n → outF L (n + 1) id = outF L n id
  | 0, id, hn => by
    have hh : hereF L id = false := by
      have := (fstF_range (fun f => f.id == id) L).1
      unfold hereF; exact decide_eq_false (by unfold whF at hn ⊢; omega)
    unfold outF; rw [hh]; rfl
  | n + 1, id, hn => by
    unfold outF
    cases hh : hereF L id with
    | false => rfl
    | true =>
      rw [if_pos rfl, if_pos rfl, outF_more h n _ (by have := parent_less h hh; omega)]
theorem outF_len {L : List Fr} : ∀ (n : Nat) (id : Int), (outF L n id).length ≤ n
  | 0, _ => Nat.le_refl _
  | n + 1, id => by
    unfold outF
    split
    · simp only [List.length_cons]; have := outF_len (L := L) n (getF L id).pa; omega
    · simp
/-- the whole way -/
def wayF (L : List Fr) (id : Int) : List Fr := outF L (L.length + 1) id
theorem wh_len (L : List Fr) (id : Int) : whF L id < (L.length : Int) := by
  rcases whF_cases L id with ⟨k, hk, e, -⟩ | ⟨e, -⟩ <;> rw [e] <;> omega
theorem wayF_here {L : List Fr} (h : framesB L = true) {id : Int} (hh : hereF L id = true) : wayF L id = getF L id :: wayF L (getF L id).pa := by
  unfold wayF
  have e : outF L (L.length + 1) id = if hereF L id = true then getF L id :: outF L L.length (getF L id).pa else [] := rfl
  rw [e, if_pos hh, outF_more h L.length (getF L id).pa (wh_len _ _)]
theorem wayF_none {L : List Fr} {id : Int} (hh : hereF L id = false) : wayF L id = [] := by
  unfold wayF outF; rw [hh]; rfl
theorem wayF_len {L : List Fr} (id : Int) : (wayF L id).length ≤ L.length + 1 := outF_len _ _
end Go.Proofs.YtclpamjgglfljaaDoor
