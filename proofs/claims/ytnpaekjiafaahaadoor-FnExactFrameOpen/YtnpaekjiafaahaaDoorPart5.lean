/- 10 of this claim's texts, one behind the other. -/
import Derived.Test.YtnpaekjiafaahaaDoorPart1
import Derived.Laws.AppendOwn
import Derived.Deep.AppendLies
import Derived.Laws.OwnMore
import Derived.Laws.ResultCell
import Derived.Test.YtnpaekjiafaahaaDoorPart2
import Derived.Test.YtnpaekjiafaahaaDoorPart4
import Derived.Test.YtnpaekjiafaahaaDoorPart3
import Derived.Deep.DeepCutAuto
/- Where an owned row lies. -/
namespace Go.Proofs.YtnpaekjiafaahaaDoor
open Go.RowKit
theorem own_base {w : World} {B n sz : Nat} {e : TypeId} {v : Value} {xs : List Value} (h : w.ownsRow B e sz v n xs) : ∀ j, v.ownBlock = some j → B ≤ j := by
  intro j hj
  obtain ⟨_, ⟨rfl, _⟩ | ⟨g, cap, cur, rfl, hB, _⟩⟩ := h
  · cases hj
  · have : g = j := Option.some.inj hj
    omega
end Go.Proofs.YtnpaekjiafaahaaDoor

/- Rows of frames that a call owns. Written by rowsown.py. -/
namespace Go.Proofs.YtnpaekjiafaahaaDoor
open Go.RowKit

/-- the cells of one -/
def frVals (c : Fr) : List Value := [.int .i64 c.id, .int .i64 c.pa, .string c.sc, .string c.ho, .int .i64 c.po, .string c.pt, .bool c.sb, .bool c.fl, .int .i64 c.tc]
def frCells : List Fr → List Value
  | [] => []
  | c :: L => frVals c ++ frCells L
theorem frCells_snoc (L : List Fr) (c : Fr) : frCells L ++ frVals c = frCells (L ++ [c]) := by
  induction L with
  | nil => simp [frCells]
  | cons q L ih => simp only [frCells, List.cons_append, List.append_assoc, ih]
theorem frCells_len (L : List Fr) : (frCells L).length = L.length * 9 := by
  induction L with
  | nil => rfl
  | cons q L ih => simp only [frCells, List.length_append, ih, List.length_cons]; show 9 + _ = _; omega
theorem frVals_at (c : Fr) : ∀ o, o < 9 → (frVals c)[o]? = some (frC c o)
  | 0, _ => rfl
  | 1, _ => rfl
  | 2, _ => rfl
  | 3, _ => rfl
  | 4, _ => rfl
  | 5, _ => rfl
  | 6, _ => rfl
  | 7, _ => rfl
  | 8, _ => rfl
theorem frCells_at : ∀ (L : List Fr) (j : Nat), j < L.length → ∀ o, o < 9 → (frCells L)[j * 9 + o]? = some (frR L j o)
  | [], j, h, _, _ => by simp at h
  | c :: L, 0, _, o, ho => by
    rw [Nat.zero_mul, Nat.zero_add, frCells, List.getElem?_append_left (by show o < 9; exact ho), frVals_at c o ho]
    rfl
  | c :: L, j + 1, h, o, ho => by
    have ih := frCells_at L j (by simpa using h) o ho
    have hl : (frVals c).length = 9 := rfl
    rw [frCells, List.getElem?_append_right (by rw [hl]; omega), hl, show (j + 1) * 9 + o - 9 = j * 9 + o by omega, ih]
    simp [frR, atF]
theorem sliceF_of_own {w : World} {B : Nat} {t : TypeId} {v : Value} {L : List Fr} (h : w.ownsRow B t 9 v L.length (frCells L)) : SliceF w B v L := by
  refine ⟨sliceR_of_own h (frCells_at L), ?_⟩
  obtain ⟨_, ⟨rfl, h0⟩ | ⟨g, cap, cur, rfl, _, _, hc, _⟩⟩ := h
  · exact ⟨none, 0, by rw [h0], by omega, fun _ => rfl⟩
  · exact ⟨_, cap, rfl, hc, fun h => by cases h⟩
theorem sliceF_none (w : World) (B : Nat) : SliceF w B (.slice none 0 0) [] := ⟨sliceR_none _ _ _ _ _ _, none, 0, rfl, Nat.le_refl _, fun _ => rfl⟩
theorem cell_Fr (w : World) (c : Fr) (t : TypeId) : ∀ j u, (frVals c)[j]? = some u → (w.alloc (.cells #[.int .i64 c.id, .int .i64 c.pa, .string c.sc, .string c.ho, .int .i64 c.po, .string c.pt, .bool c.sb, .bool c.fl, .int .i64 c.tc] t)).cell? ((⟨w.heap.size, 0, none⟩ : Addr).add j) = some u := by
  intro j u h
  have e : (⟨w.heap.size, 0, none⟩ : Addr).add j = ⟨w.heap.size, j, none⟩ := by unfold Addr.add; split <;> simp_all
  rw [e, World.cell?_alloc_new, ← Array.getElem?_toList]
  exact h
theorem one_Fr (c : Fr) : ∀ v ∈ frVals c, v.oneCell' = true := by
  intro u hu
  simp only [frVals, List.mem_cons, List.not_mem_nil, or_false] at hu
  rcases hu with rfl | rfl | rfl | rfl | rfl | rfl | rfl | rfl | rfl <;> rfl
/-- a row of them, kept while other blocks are written -/
theorem ownF_keep {w w' : World} {B n sz : Nat} {row : Option Nat} {e : TypeId} {v : Value} {xs : List Value} (h : w.ownsRow B e sz v n xs) (hg : w.grownBy w' row) (hne : ∀ g, v.ownBlock = some g → row ≠ some g) : w'.ownsRow B e sz v n xs := by
  obtain ⟨hl, h0 | ⟨g, cap, cur, rfl, hbg, hh, r⟩⟩ := h
  · exact ⟨hl, .inl h0⟩
  · have hgl : g < w.heap.size := (Array.getElem?_eq_some_iff.mp hh).1
    exact ⟨hl, .inr ⟨g, cap, cur, rfl, hbg, by rw [hg.block g hgl (fun e => hne g rfl e.symm)]; exact hh, r⟩⟩
end Go.Proofs.YtnpaekjiafaahaaDoor

/- append to a slice whose capacity is cut to its length: a new row. -/
namespace Go.Proofs.YtnpaekjiafaahaaDoor
open Go.RowKit

theorem run_append_cut {P : Program} (w : World) (base : Nat) (t ty e : TypeId) (i : TypeInfo) (z : Value) (size bytes : Nat) (ht : P.underlying t = some (.slice e)) (hi : P.info? e = some i) (hz : i.zero = some z)
    (hsize : i.size = size) (hby : i.bytes = bytes) (hzs : z.cells.size = size) (b : Addr) (n : Nat) (olds : List Value) (hlo : olds.length = n * size) (holds : ∀ j u, olds[j]? = some u → w.cell? (b.add j) = some u)
    (a : Addr) (m c : Nat) (news : List Value) (hl : news.length = m * size) (hnews : ∀ j u, news[j]? = some u → w.cell? (a.add j) = some u) (hm : 0 < m)
    (h63 : n + m ≤ maxLen) (hbytes : (n + m) * bytes ≤ 140737488355328) (hbase : base ≤ w.heap.size) :
    ∃ cap w', (Builtin.append_ #[t, t] ty #[.slice (some b) n n, .slice (some a) m c]).run P w = .ok (.slice (some ⟨w.heap.size, 0, none⟩) (n + m) cap) w' ∧ w'.ownsRow base e size (.slice (some ⟨w.heap.size, 0, none⟩) (n + m) cap) (n + m) (olds ++ news) ∧ w.grownBy w' none := by
  subst hsize
  subst hby
  have hlen : (olds ++ news).length = (n + m) * i.size := by rw [List.length_append, hlo, hl, Nat.add_mul]
  have hsmall : n + m ≤ 9223372036854775807 := by simp only [maxLen] at h63; omega
  have hr := run_append_grow (P := P) w t ty e i z ht hi hz b n n olds hlo holds a m c news hl hnews (by omega) (by omega) (growslice_fits (by omega) hbytes)
  have hge := grownCap_ge w (n + m) n e
  have hcm : grownCap w (n + m) n e ≤ maxLen := grownCap_le_maxLen w (n + m) n e h63
  refine ⟨_, _, hr, ⟨hlen, .inr ⟨w.heap.size, _, _, rfl, hbase, heap_alloc_new w.drew _, hge, hcm, ?_, ?_⟩⟩, ⟨rfl, rfl, rfl, by simp, fun k hk _ => by first | exact heap_alloc_old w.drew _ k hk | exact heap_alloc_old w.drew _ hk⟩⟩
  · simp only [Array.size_append, List.size_toArray, size_zeroCells, hzs, hlo, hl, ← Nat.add_mul]
    congr 1
    omega
  · simp only [Array.toList_append, List.append_assoc]
    rw [← List.append_assoc, ← hlen]
    exact List.take_left
theorem wp_append_cut {P : Program} {w : World} {o : Oper} {a : Act} {K : Act → World → Prop} {Q : Exit → Act → World → Prop} (s x : Operand) (t : TypeId) (ho : o.op = .call { callee := .builtin .append, args := #[s, x], argTypes := #[t, t] })
    (base : Nat) (e : TypeId) (i : TypeInfo) (z : Value) (size bytes : Nat) (ht : P.underlying t = some (.slice e)) (hi : P.info? e = some i) (hz : i.zero = some z) (hsize : i.size = size) (hby : i.bytes = bytes) (hzs : z.cells.size = size)
    (b : Addr) (n : Nat) (hs : a.eval s = .slice (some b) n n) (olds : List Value) (hlo : olds.length = n * size) (holds : ∀ j u, olds[j]? = some u → w.cell? (b.add j) = some u)
    (ad : Addr) (m c : Nat) (news : List Value) (hx : a.eval x = .slice (some ad) m c) (hl : news.length = m * size) (hnews : ∀ j u, news[j]? = some u → w.cell? (ad.add j) = some u) (hm : 0 < m)
    (h63 : n + m ≤ maxLen) (hbytes : (n + m) * bytes ≤ 140737488355328) (hbase : base ≤ w.heap.size)
    (h : ∀ cap w', w'.ownsRow base e size (.slice (some ⟨w.heap.size, 0, none⟩) (n + m) cap) (n + m) (olds ++ news) → w.grownBy w' none → K (a.put o.dst (.slice (some ⟨w.heap.size, 0, none⟩) (n + m) cap)) w') : o.wp P a w K Q := by
  obtain ⟨cap, w', hr, h2, h3⟩ := run_append_cut (P := P) w base t o.type e i z size bytes ht hi hz hsize hby hzs b n olds hlo holds ad m c news hl hnews hm h63 hbytes hbase
  unfold Oper.wp execOp
  simp only [ho, resolve, invoke, builtin, Sem.run_bind, Sem.run_pure, Result.andThen_ok, List.map_toArray, List.map_cons, List.map_nil, hs, hx, hr]
  exact h cap w' h2 h3
/- append of nil to what is the call's own: nothing changes. -/
theorem wp_append_nil {P : Program} {w : World} {o : Oper} {a : Act} {K : Act → World → Prop} {Q : Exit → Act → World → Prop} (s x : Operand) (t : TypeId) (ho : o.op = .call { callee := .builtin .append, args := #[s, x], argTypes := #[t, t] })
    (base : Nat) (e : TypeId) (i : TypeInfo) (size : Nat) (ht : P.underlying t = some (.slice e)) (hi : P.info? e = some i)
    (v : Value) (n : Nat) (xs : List Value) (hs : a.eval s = v) (hown : w.ownsRow base e size v n xs) (hx : a.eval x = .slice none 0 0)
    (h : K (a.put o.dst v) w) : o.wp P a w K Q := by
  have hr := run_append_owned_none (P := P) (w := w) base t o.type e i size ht hi v n xs hown
  unfold Oper.wp execOp
  simp only [ho, resolve, invoke, builtin, Sem.run_bind, Sem.run_pure, Result.andThen_ok, List.map_toArray, List.map_cons, List.map_nil, hs, hx, hr]
  exact h
end Go.Proofs.YtnpaekjiafaahaaDoor

/- A block that holds values, kept while others are written. -/
namespace Go.Proofs.YtnpaekjiafaahaaDoor
open Go.RowKit

/-- the block's cells begin with these values, and may be written -/
def BoxV (w : World) (b : Nat) (vs : List Value) : Prop := b < w.heap.size ∧ ∀ (i : Nat) (v : Value), vs[i]? = some v → w.cell? ⟨b, i, none⟩ = some v ∧ w.frozen? ⟨b, i, none⟩ = false
theorem BoxV.of_block {w w' : World} {b : Nat} {vs : List Value} (h : BoxV w b vs) (hb : w'.heap[b]? = w.heap[b]?) (hs : w.heap.size ≤ w'.heap.size) : BoxV w' b vs :=
  ⟨Nat.lt_of_lt_of_le h.1 hs, fun i v e => ⟨by rw [World.cell?_of_block (a := ⟨b, i, none⟩) hb]; exact (h.2 i v e).1, by rw [World.frozen?_of_block (a := ⟨b, i, none⟩) hb]; exact (h.2 i v e).2⟩⟩
theorem BoxV.below {w w' : World} {b : Nat} {vs : List Value} (h : BoxV w b vs) (hb : Below w.heap.size w w') : BoxV w' b vs := h.of_block (hb.block b h.1) hb.size
theorem BoxV.grown {w w' : World} {b G : Nat} {vs : List Value} (h : BoxV w b vs) (hg : w.grownBy w' (some G)) (hne : b ≠ G) : BoxV w' b vs := h.of_block (hg.block b h.1 (fun e => hne (Option.some.inj e))) hg.size
theorem BoxV.at {w : World} {b : Nat} {vs : List Value} (h : BoxV w b vs) {i : Nat} {v : Value} (e : vs[i]? = some v) : w.cell? ⟨b, i, none⟩ = some v := (h.2 i v e).1
theorem BoxV.free {w : World} {b : Nat} {vs : List Value} (h : BoxV w b vs) {i : Nat} {v : Value} (e : vs[i]? = some v) : w.frozen? ⟨b, i, none⟩ = false := (h.2 i v e).2
theorem boxV_new (w : World) (vs : List Value) (t : TypeId) : BoxV (w.alloc (.cells vs.toArray t)) w.heap.size vs :=
  ⟨by simp, fun i v e => ⟨by rw [World.cell?_alloc_new]; simpa using e, by simp⟩⟩
theorem BoxV.alloc {w : World} {b : Nat} {vs : List Value} (h : BoxV w b vs) (o : Obj) : BoxV (w.alloc o) b vs := h.below ((Below.refl _ _).alloc (Nat.le_refl _) _)
theorem BoxV.drew {w : World} {b : Nat} {vs : List Value} (h : BoxV w b vs) : BoxV w.drew b vs := h.below (Below.drew (Below.refl _ _))
end Go.Proofs.YtnpaekjiafaahaaDoor

/- The walks of the specification's OriginRight and OriginOf. -/
namespace Go.Proofs.YtnpaekjiafaahaaDoor
open Go.RowKit

/-- an Origin, as a value -/
def originV (sc ho : ByteArray) (po no : Int) : Value := .agg #[.string sc, .string ho, .int .i64 po, .int .i64 no]
def originB (sc ho : ByteArray) (po no : Int) : Bool := if no = 0 then placeB sc ho po else (decide (1 ≤ no) && decide (no ≤ 1000000)) && sc.toList.isEmpty && ho.toList.isEmpty && (po == 0)
def originT (sc ho : ByteArray) (po no : Int) : ByteArray := if originB sc ho po no = true then (if no = 0 then placeT sc ho po else ⟨#[110, 117, 108, 108, 35]⟩ ++ decB no) else ⟨#[]⟩

set_option maxRecDepth 10000 in
set_option maxHeartbeats 400000 in
theorem specOriginOf_any (sc ho pa : ByteArray) (po : Int) (w : World) :
    Calls Tryd.prog 83 #[urlV sc ho pa po] w fun e w' => e = .returned (if urlB sc ho pa po = true then originV sc ho po 0 else originV ⟨#[]⟩ ⟨#[]⟩ 0 0) ∧ Below w.heap.size w w' := by
  have H1 := fun W => specUrlRight_any sc ho pa po W
  unfold urlV at H1 ⊢
  cases hu : urlB sc ho pa po with
  | true =>
    rw [hu] at H1
    rw [if_pos rfl]
    have G1 : Hid (∀ W, Calls Tryd.prog 41 #[.agg #[.string sc, .string ho, .int .i64 po, .string pa]] W fun e w' => e = .returned (.bool true) ∧ Below W.heap.size W w') := H1
    clear H1 hu
    go_enter Tryd.func83, Tryd.ntmps83
    go_wp2_with fail
    refine (G1.out _).mono ?_
    rintro e w1 ⟨rfl, hb⟩
    obtain ⟨hc, hf⟩ := bcell hb
    go_wp2
    refine bodyPost_ret (v := originV sc ho po 0) (by simp [originV, results, Tryd.results83, go_sem, hc]) rfl ⟨rfl, ?_⟩
    exact Below.setCell (Below.setCell (Below.setCell (Below.setCell ((((Below.refl _ _).alloc (Nat.le_refl _) _).alloc (by simp) _).trans (hb.mono (by simp; omega))) (by simp) _) (by simp) _) (by simp) _) (by simp) _
  | false =>
    rw [hu] at H1
    rw [if_neg (by simp)]
    have G1 : Hid (∀ W, Calls Tryd.prog 41 #[.agg #[.string sc, .string ho, .int .i64 po, .string pa]] W fun e w' => e = .returned (.bool false) ∧ Below W.heap.size W w') := H1
    clear H1 hu
    go_enter Tryd.func83, Tryd.ntmps83
    go_wp2_with fail
    refine (G1.out _).mono ?_
    rintro e w1 ⟨rfl, hb⟩
    obtain ⟨hc, hf⟩ := bcell hb
    go_wp2
    refine bodyPost_ret (v := originV ⟨#[]⟩ ⟨#[]⟩ 0 0) (by simp [originV, results, Tryd.results83, go_sem, hc]) rfl ⟨rfl, ?_⟩
    exact Below.setCell (Below.setCell (Below.setCell (Below.setCell ((((Below.refl _ _).alloc (Nat.le_refl _) _).alloc (by simp) _).trans (hb.mono (by simp; omega))) (by simp) _) (by simp) _) (by simp) _) (by simp) _
end Go.Proofs.YtnpaekjiafaahaaDoor

/- The origin of a frame, as a plain function. -/
namespace Go.Proofs.YtnpaekjiafaahaaDoor
open Go.RowKit

/-- an origin's fields -/
structure Og where
  sc : ByteArray
  ho : ByteArray
  po : Int
  no : Int
def ogV (o : Og) : Value := .agg #[.string o.sc, .string o.ho, .int .i64 o.po, .int .i64 o.no]
def ogNone : Og := ⟨⟨#[]⟩, ⟨#[]⟩, 0, 0⟩
/-- the origin of a url's fields -/
def ogUrl (sc ho pt : ByteArray) (po : Int) : Og := if urlB sc ho pt po = true then ⟨sc, ho, po, 0⟩ else ogNone
theorem ogUrl_V (sc ho pt : ByteArray) (po : Int) : (if urlB sc ho pt po = true then originV sc ho po 0 else originV ⟨#[]⟩ ⟨#[]⟩ 0 0) = ogV (ogUrl sc ho pt po) := by
  unfold ogUrl
  split <;> rfl
def ogF (f : Fr) : Og := if f.sb = true then ⟨⟨#[]⟩, ⟨#[]⟩, 0, f.id⟩ else ogUrl f.sc f.ho f.pt f.po
/-- the frame that the number leads to -/
def getF (L : List Fr) (id : Int) : Fr := atF L (whF L id).toNat
def hereF (L : List Fr) (id : Int) : Bool := decide (0 ≤ whF L id)
def orgF (L : List Fr) (id : Int) : Og := if (hereF L id && framesB L) = true then ogF (getF L id) else ogNone
theorem hereF_at {L : List Fr} {id : Int} (h : hereF L id = true) : (whF L id).toNat < L.length ∧ (whF L id) = ((whF L id).toNat : Int) := by
  unfold hereF at h
  rw [decide_eq_true_eq] at h
  rcases whF_cases L id with ⟨k, hk, e, -⟩ | ⟨e, -⟩
  · rw [e]; simp; exact hk
  · omega
end Go.Proofs.YtnpaekjiafaahaaDoor

/- The walks of the specification's l09Ill, l09Open and FrameOpen. Written by specopen.py. -/
namespace Go.Proofs.YtnpaekjiafaahaaDoor
open Go.RowKit

theorem one_cellsF : ∀ M : List Fr, ∀ v ∈ frCells M, v.oneCell' = true
  | [], v, h => by cases h
  | c :: M, v, h => by
    rw [frCells, List.mem_append] at h
    rcases h with h | h
    · exact one_Fr c v h
    · exact one_cellsF M v h
theorem cells_allF {w : World} {g : Nat} {L : List Fr} (hc : ∀ j, j < L.length → ∀ o, o < 9 → w.cell? ⟨g, j * 9 + o, none⟩ = some (frC (atF L j) o)) :
    ∀ j u, (frCells L)[j]? = some u → w.cell? ((⟨g, 0, none⟩ : Addr).add j) = some u := by
  intro j u h
  have hlt : j < L.length * 9 := by
    have := (List.getElem?_eq_some_iff.1 h).1
    rw [frCells_len] at this; exact this
  have e : (⟨g, 0, none⟩ : Addr).add j = ⟨g, j / 9 * 9 + j % 9, none⟩ := by
    have e1 : (⟨g, 0, none⟩ : Addr).add j = ⟨g, j, none⟩ := by unfold Addr.add; split <;> simp_all
    rw [e1, show j = j / 9 * 9 + j % 9 by omega]
    congr 1; omega
  have h3 := frCells_at L (j / 9) (by omega) (j % 9) (Nat.mod_lt _ (by decide))
  rw [show j / 9 * 9 + j % 9 = j by omega, h] at h3
  rw [e, hc _ (by omega) _ (Nat.mod_lt _ (by decide))]
  exact h3.symm
theorem wpList_append_nilF {P : Program} {w : World} {ops : Array Oper} {rest : List Oper} {o : Oper} {a : Act} {Q : Exit → Act → World → Prop} (hgd : o.guard = none) (s x : Operand) (t : TypeId) (ho : o.op = .call { callee := .builtin .append, args := #[s, x], argTypes := #[t, t] })
    (base : Nat) (e : TypeId) (i : TypeInfo) (size : Nat) (ht : P.underlying t = some (.slice e)) (hi : P.info? e = some i)
    (v : Value) (n : Nat) (xs : List Value) (hs : a.eval s = v) (hown : w.ownsRow base e size v n xs) (hx : a.eval x = .slice none 0 0)
    (h : ∀ w', Hid (w' = w) → wpList P ops Q rest (a.put o.dst v) w') : wpList P ops Q (o :: rest) a w :=
  wpList_plain hgd fun _ hK => wp_append_nil s x t ho base e i size ht hi v n xs hs hown hx (hK _ _ (h w rfl))
theorem specIll9_any (c : Int) (w : World) :
    Calls Tryd.prog 48 #[.int .i64 c] w fun e w' => e = .returned (.agg #[.slice none 0 0, .int .i64 0, .int .i64 c]) ∧ Below w.heap.size w w' := by
  go_enter Tryd.func48, Tryd.ntmps48
  go_wp2
  exact bodyPost_ret (v := .agg #[.slice none 0 0, .int .i64 0, .int .i64 c]) (by simp [results, Tryd.results48, go_sem]) rfl ⟨rfl, (Below.refl _ _).alloc (Nat.le_refl _) _⟩
set_option maxRecDepth 10000 in
set_option maxHeartbeats 16000000 in
theorem specOpen9_any (v : Value) (L : List Fr) (B : Nat) (pa : Int) (sc ho pt : ByteArray) (po : Int) (sb : Bool) (w : World) (hs : SliceF w B v L) (h4 : ¬ 400 < L.length) (hform : (framesB L && urlB sc ho pt po && boxF pa sb) = true) :
    Calls Tryd.prog 49 #[v, .int .i64 pa, .agg #[.string sc, .string ho, .int .i64 po, .string pt], .bool sb] w fun e w' => ∃ v', e = .returned v' ∧ AnsF w' w.heap.size v' (openF L pa sc ho pt po sb) ∧ Below w.heap.size w w' := by
  have KI : Hid (∀ c W, Calls Tryd.prog 48 #[.int .i64 c] W fun e w' => e = .returned (.agg #[.slice none 0 0, .int .i64 0, .int .i64 c]) ∧ Below W.heap.size W w') := fun c W => specIll9_any c W
  have hL : framesB L = true := by rw [Bool.and_eq_true, Bool.and_eq_true] at hform; exact hform.1.1
  have HL10 : L.length ≤ 10 := (framesB_parts hL).1
  have HLa : Hid (0 ≤ lastF L ∧ lastF L ≤ 1000000) := by
    show _ ∧ _
    have hok := (framesB_parts hL).2
    unfold lastF
    split
    · omega
    · exact okF_time (hok _ (by omega))
  have KA : Hid (∀ W, Below w.heap.size w W → Calls Tryd.prog 40 #[v, .int .i64 pa] W fun e w' => e = .returned (.int .i64 (whF L pa)) ∧ w' = W) := fun W hb => specAt_any v L B pa W (hs.below hb) (by omega)
  obtain ⟨W0, hW⟩ : ∃ W0, W0 = ((w.alloc (.cells #[.string sc, .string ho, .int .i64 po, .string pt] 35)).alloc (.cells #[.slice none 0 0, .int .i64 0, .int .i64 0] 33)) := ⟨_, rfl⟩
  have hW0 : Hid (W0 = ((w.alloc (.cells #[.string sc, .string ho, .int .i64 po, .string pt] 35)).alloc (.cells #[.slice none 0 0, .int .i64 0, .int .i64 0] 33))) := hW
  have UW : Hid (BoxV W0 w.heap.size [.string sc, .string ho, .int .i64 po, .string pt]) := by show BoxV _ _ _; rw [hW]; exact (boxV_new w [.string sc, .string ho, .int .i64 po, .string pt] 35).alloc _
  have XW : Hid (BoxV W0 (w.heap.size + 1) [.slice none 0 0, .int .i64 0, .int .i64 0]) := by
    show BoxV _ _ _
    rw [hW]
    have h := boxV_new (w.alloc (.cells #[.string sc, .string ho, .int .i64 po, .string pt] 35)) [.slice none 0 0, .int .i64 0, .int .i64 0] 33
    rw [World.size_alloc] at h
    exact h
  have BW : Hid (Below w.heap.size w W0) := by show Below _ _ _; rw [hW]; exact ((Below.refl _ _).alloc (Nat.le_refl _) _).alloc (by simp) _
  have hlt0 : w.heap.size + 1 < W0.heap.size := XW.out.1
  obtain ⟨⟨p, cap, rfl, hg⟩, p', cap', e', hcap, hpn⟩ := hs.below BW.out
  obtain ⟨rfl, -, rfl⟩ : p = p' ∧ L.length = L.length ∧ cap = cap' := by injection e' with e1 e2 e3; exact ⟨e1, e2, e3⟩
  have HV0 : Hid (L.length = L.length) := rfl
  obtain ⟨i0, hi, hy0, hy1, hy2⟩ := info_parts infoFrame
  have HG : Hid (0 < L.length → ∃ g, p = some ⟨g, 0, none⟩ ∧ g < W0.heap.size ∧ W0.cell? ⟨g, (L.length - 1) * 9, none⟩ = some (.int .i64 (atF L (L.length - 1)).id) ∧ Hid (∀ W, Below W0.heap.size W0 W → ∀ j u, (frCells L)[j]? = some u → W.cell? ((⟨g, 0, none⟩ : Addr).add j) = some u)) := fun h0 => by
    obtain ⟨g, rfl, -, hgw, hc⟩ := hg h0
    exact ⟨g, rfl, hgw, (hc (L.length - 1) (by omega) 0 (by omega)).1, fun W hb => cells_allF (fun j hj o ho => (hb.cell (p := ⟨g, j * 9 + o, none⟩) hgw).trans (hc j hj o ho).1)⟩
  clear hW hg hs hL e' hcap
  by_cases hp0 : pa = 0
  · have hhold : holdF L pa = true := by unfold holdF; rw [hp0]; rfl
    have qp : (pa != 0) = false := by rw [hp0]; rfl
    clear KA hp0
    by_cases h0 : L.length = 0
    · have HL0 : Hid (L = []) := List.length_eq_zero_iff.1 h0
      have q0 : decide ((0 : Int) < (L.length : Int)) = false := by rw [decide_eq_false_iff_not]; omega
      have q10 : decide ((10 : Int) ≤ (L.length : Int)) = false := by rw [decide_eq_false_iff_not]; omega
      have HQ : Hid (openF L pa sc ho pt po sb = ⟨L ++ [⟨1, pa, sc, ho, po, pt, sb, false, 0⟩], 1, 0⟩) := by
        have h1 : lastF L = 0 := by unfold lastF; rw [if_pos h0]
        have h := openF_ok h4 hform hhold (by omega) (by omega)
        unfold oneF at h
        rw [h1] at h
        exact h
      clear HLa
      cases p with
      | none =>
        have hc0 : cap = 0 := hpn rfl
        subst hc0
        rw [h0] at HV0 q0 q10 ⊢
        clear h0
        go_enter Tryd.func49, Tryd.ntmps49
        go_upto_region 1 with fail
        rw [← hW0.out]
        clear hW0
        have O0 : Hid ((W0.alloc (.cells #[] 60)).ownsRow W0.heap.size 60 9 (.slice (some ⟨W0.heap.size, 0, none⟩) 0 0) 0 (frCells [])) := World.ownsRow_made W0 #[] 0 (Nat.le_refl _) (Nat.zero_le _) rfl
        have AA : Hid (Below W0.heap.size W0 (W0.alloc (.cells #[] 60))) := (Below.refl _ _).alloc (Nat.le_refl _) _
        have zz0 : W0.heap.size ≤ (W0.alloc (.cells #[] 60)).heap.size := by simp
        go_wp2_with (at_builtin; go_must (refine wpList_append_nilF rfl _ _ 25 rfl W0.heap.size 60 i0 9 Tryd.underlying25 hi _ _ _ rfl O0.out rfl ?_))
        intro w6 hw6
        have A6 : Hid (Below W0.heap.size W0 w6) := by show Below _ _ _; rw [hw6.out]; exact AA.out
        have O1 : Hid (w6.ownsRow W0.heap.size 60 9 (.slice (some ⟨W0.heap.size, 0, none⟩) 0 0) 0 (frCells [])) := by show World.ownsRow _ _ _ _ _ _ _; rw [hw6.out]; exact O0.out
        clear O0 AA hw6
        have u0 : w6.cell? ⟨w.heap.size, 0, none⟩ = some (.string sc) := (UW.out.below A6.out).at (i := 0) rfl
        have u1 : w6.cell? ⟨w.heap.size, 1, none⟩ = some (.string ho) := (UW.out.below A6.out).at (i := 1) rfl
        have u2 : w6.cell? ⟨w.heap.size, 2, none⟩ = some (.int .i64 po) := (UW.out.below A6.out).at (i := 2) rfl
        have u3 : w6.cell? ⟨w.heap.size, 3, none⟩ = some (.string pt) := (UW.out.below A6.out).at (i := 3) rfl
        have z6 : W0.heap.size ≤ w6.heap.size := A6.out.size
        go_wp2_with (at_builtin; go_must (refine wpList_append_own _ rfl _ _ 25 rfl W0.heap.size 60 i0 (.agg #[.int .i64 0, .int .i64 0, .string ⟨#[]⟩, .string ⟨#[]⟩, .int .i64 0, .string ⟨#[]⟩, .bool false, .bool false, .int .i64 0]) 9 88 Tryd.underlying25 hi hy0 hy1 hy2 rfl (by decide) _ _ _ rfl (O1.out.alloc _) ⟨w6.heap.size, 0, none⟩ 1 1 (frVals (⟨1, pa, sc, ho, po, pt, sb, false, 0⟩ : Fr)) rfl rfl (cell_Fr _ (⟨1, pa, sc, ho, po, pt, sb, false, 0⟩ : Fr) _) (one_Fr (⟨1, pa, sc, ho, po, pt, sb, false, 0⟩ : Fr)) (by unfold maxLen; omega) (by omega) (by simp; omega) ?_))
        intro v7 w7 ho7 hg7 hn7
        have A7 : Hid (Below W0.heap.size W0 w7) := (A6.out.alloc z6 _).grown hg7 (by simp; omega) (fun j hj => own_base O1.out j hj)
        have S7 : Hid (SliceF w7 W0.heap.size v7 (L ++ [(⟨1, pa, sc, ho, po, pt, sb, false, 0⟩ : Fr)])) := by
          show SliceF _ _ _ _
          rw [HL0.out]
          exact sliceF_of_own (t := 60) (L := [(⟨1, pa, sc, ho, po, pt, sb, false, 0⟩ : Fr)]) (by simpa [frCells] using ho7)
        have X7 : Hid (BoxV w7 (w.heap.size + 1) [.slice none 0 0, .int .i64 0, .int .i64 0]) := XW.out.below A7.out
        have B7 : Hid (Below w.heap.size w w7) := BW.out.trans (A7.out.mono BW.out.size)
        obtain ⟨pq, cq, hv7⟩ : ∃ pq cq, v7 = .slice pq (L ++ [(⟨1, pa, sc, ho, po, pt, sb, false, 0⟩ : Fr)]).length cq := by obtain ⟨⟨p, c, e, -⟩, -⟩ := S7.out; exact ⟨p, c, e⟩
        clear ho7 hg7 hn7 O1 A6 A7 u0 u1 u2 u3
        generalize hm : (L ++ [(⟨1, pa, sc, ho, po, pt, sb, false, 0⟩ : Fr)]).length = m at *
        subst hv7
        have x0 : w7.cell? ⟨(w.heap.size + 1), 0, none⟩ = some (.slice none 0 0) := X7.out.at (i := 0) rfl
        have xf0 : w7.frozen? ⟨(w.heap.size + 1), 0, none⟩ = false := X7.out.free (i := 0) rfl
        have x1 : w7.cell? ⟨(w.heap.size + 1), 1, none⟩ = some (.int .i64 0) := X7.out.at (i := 1) rfl
        have xf1 : w7.frozen? ⟨(w.heap.size + 1), 1, none⟩ = false := X7.out.free (i := 1) rfl
        have x2 : w7.cell? ⟨(w.heap.size + 1), 2, none⟩ = some (.int .i64 0) := X7.out.at (i := 2) rfl
        have xf2 : w7.frozen? ⟨(w.heap.size + 1), 2, none⟩ = false := X7.out.free (i := 2) rfl
        go_wp2
        refine bodyPost_ret (v := .agg #[.slice pq m cq, .int .i64 1, .int .i64 0]) (by simp [results, Tryd.results49, go_sem, x0, x1, x2]) rfl ⟨_, rfl, ⟨_, by rw [HQ.out], by rw [HQ.out]; exact (S7.out.store3 hlt0).mono (by omega)⟩, (Below.setCell (Below.setCell (Below.setCell B7.out (Nat.le_succ _) _) (Nat.le_succ _) _) (Nat.le_succ _) _)⟩
      | some ad =>
        obtain ⟨a0, a1, a2⟩ := ad
        rw [h0] at HV0 q0 q10 ⊢
        clear h0
        go_enter Tryd.func49, Tryd.ntmps49
        go_upto_region 1 with fail
        rw [← hW0.out]
        clear hW0
        have O0 : Hid ((W0.alloc (.cells #[] 60)).ownsRow W0.heap.size 60 9 (.slice (some ⟨W0.heap.size, 0, none⟩) 0 0) 0 (frCells [])) := World.ownsRow_made W0 #[] 0 (Nat.le_refl _) (Nat.zero_le _) rfl
        have AA : Hid (Below W0.heap.size W0 (W0.alloc (.cells #[] 60))) := (Below.refl _ _).alloc (Nat.le_refl _) _
        have zz0 : W0.heap.size ≤ (W0.alloc (.cells #[] 60)).heap.size := by simp
        go_wp2_with (at_builtin; go_must (refine wpList_append_own _ rfl _ _ 25 rfl W0.heap.size 60 i0 (.agg #[.int .i64 0, .int .i64 0, .string ⟨#[]⟩, .string ⟨#[]⟩, .int .i64 0, .string ⟨#[]⟩, .bool false, .bool false, .int .i64 0]) 9 88 Tryd.underlying25 hi hy0 hy1 hy2 rfl (by decide) _ _ _ rfl O0.out ⟨a0, a1, a2⟩ 0 cap [] rfl rfl (by intro j u h; cases h) (by intro v h; cases h) (by unfold maxLen; omega) (by omega) zz0 ?_))
        intro v6 w6 ho6 hg6 hn6
        have A6 : Hid (Below W0.heap.size W0 w6) := AA.out.grown hg6 zz0 (fun j hj => own_base O0.out j hj)
        have O1 : Hid (w6.ownsRow W0.heap.size 60 9 v6 0 (frCells [])) := by show World.ownsRow _ _ _ _ _ _ _; simpa [frCells] using ho6
        clear ho6 hg6 hn6 O0 AA
        have u0 : w6.cell? ⟨w.heap.size, 0, none⟩ = some (.string sc) := (UW.out.below A6.out).at (i := 0) rfl
        have u1 : w6.cell? ⟨w.heap.size, 1, none⟩ = some (.string ho) := (UW.out.below A6.out).at (i := 1) rfl
        have u2 : w6.cell? ⟨w.heap.size, 2, none⟩ = some (.int .i64 po) := (UW.out.below A6.out).at (i := 2) rfl
        have u3 : w6.cell? ⟨w.heap.size, 3, none⟩ = some (.string pt) := (UW.out.below A6.out).at (i := 3) rfl
        have z6 : W0.heap.size ≤ w6.heap.size := A6.out.size
        go_wp2_with (at_builtin; go_must (refine wpList_append_own _ rfl _ _ 25 rfl W0.heap.size 60 i0 (.agg #[.int .i64 0, .int .i64 0, .string ⟨#[]⟩, .string ⟨#[]⟩, .int .i64 0, .string ⟨#[]⟩, .bool false, .bool false, .int .i64 0]) 9 88 Tryd.underlying25 hi hy0 hy1 hy2 rfl (by decide) _ _ _ rfl (O1.out.alloc _) ⟨w6.heap.size, 0, none⟩ 1 1 (frVals (⟨1, pa, sc, ho, po, pt, sb, false, 0⟩ : Fr)) rfl rfl (cell_Fr _ (⟨1, pa, sc, ho, po, pt, sb, false, 0⟩ : Fr) _) (one_Fr (⟨1, pa, sc, ho, po, pt, sb, false, 0⟩ : Fr)) (by unfold maxLen; omega) (by omega) (by simp; omega) ?_))
        intro v7 w7 ho7 hg7 hn7
        have A7 : Hid (Below W0.heap.size W0 w7) := (A6.out.alloc z6 _).grown hg7 (by simp; omega) (fun j hj => own_base O1.out j hj)
        have S7 : Hid (SliceF w7 W0.heap.size v7 (L ++ [(⟨1, pa, sc, ho, po, pt, sb, false, 0⟩ : Fr)])) := by
          show SliceF _ _ _ _
          rw [HL0.out]
          exact sliceF_of_own (t := 60) (L := [(⟨1, pa, sc, ho, po, pt, sb, false, 0⟩ : Fr)]) (by simpa [frCells] using ho7)
        have X7 : Hid (BoxV w7 (w.heap.size + 1) [.slice none 0 0, .int .i64 0, .int .i64 0]) := XW.out.below A7.out
        have B7 : Hid (Below w.heap.size w w7) := BW.out.trans (A7.out.mono BW.out.size)
        obtain ⟨pq, cq, hv7⟩ : ∃ pq cq, v7 = .slice pq (L ++ [(⟨1, pa, sc, ho, po, pt, sb, false, 0⟩ : Fr)]).length cq := by obtain ⟨⟨p, c, e, -⟩, -⟩ := S7.out; exact ⟨p, c, e⟩
        clear ho7 hg7 hn7 O1 A6 A7 u0 u1 u2 u3
        generalize hm : (L ++ [(⟨1, pa, sc, ho, po, pt, sb, false, 0⟩ : Fr)]).length = m at *
        subst hv7
        have x0 : w7.cell? ⟨(w.heap.size + 1), 0, none⟩ = some (.slice none 0 0) := X7.out.at (i := 0) rfl
        have xf0 : w7.frozen? ⟨(w.heap.size + 1), 0, none⟩ = false := X7.out.free (i := 0) rfl
        have x1 : w7.cell? ⟨(w.heap.size + 1), 1, none⟩ = some (.int .i64 0) := X7.out.at (i := 1) rfl
        have xf1 : w7.frozen? ⟨(w.heap.size + 1), 1, none⟩ = false := X7.out.free (i := 1) rfl
        have x2 : w7.cell? ⟨(w.heap.size + 1), 2, none⟩ = some (.int .i64 0) := X7.out.at (i := 2) rfl
        have xf2 : w7.frozen? ⟨(w.heap.size + 1), 2, none⟩ = false := X7.out.free (i := 2) rfl
        go_wp2
        refine bodyPost_ret (v := .agg #[.slice pq m cq, .int .i64 1, .int .i64 0]) (by simp [results, Tryd.results49, go_sem, x0, x1, x2]) rfl ⟨_, rfl, ⟨_, by rw [HQ.out], by rw [HQ.out]; exact (S7.out.store3 hlt0).mono (by omega)⟩, (Below.setCell (Below.setCell (Below.setCell B7.out (Nat.le_succ _) _) (Nat.le_succ _) _) (Nat.le_succ _) _)⟩
    obtain ⟨g, rfl, hgw, HC, HCC⟩ := HG.out (by omega)
    have q0 : decide ((0 : Int) < (L.length : Int)) = true := by rw [decide_eq_true_iff]; omega
    have hx : lastF L = (atF L (L.length - 1)).id := by unfold lastF; rw [if_neg h0]
    have hlb := HLa.out
    have c0 : W0.cell? ⟨g, (L.length - 1) * 9, none⟩ = some (.int .i64 (lastF L)) := by rw [hx]; exact HC
    have hl10 : L.length ≤ 10 := HL10
    obtain ⟨m0, hm0⟩ : ∃ m, L.length = m + 1 := ⟨L.length - 1, by omega⟩
    have hw1 : IntKind.i64.wrap (((m0 + 1 : Nat) : Int) - 1) = m0 := by rw [IntKind.wrap_i64]; omega
    have mz0 : (0 : Int) ≤ m0 := by omega
    have mz1 : (m0 : Int) < ((m0 + 1 : Nat) : Int) := by omega
    rw [hm0, Nat.add_sub_cancel] at c0
    have hwn : IntKind.i64.wrap (lastF L + 1) = lastF L + 1 := by rw [IntKind.wrap_i64]; omega
    by_cases h10 : L.length = 10
    · have q10 : decide ((10 : Int) ≤ (m0 : Int) + 1) = true := by rw [decide_eq_true_iff]; omega
      rw [hm0] at HV0 q0 ⊢
      have hw9 : openF L pa sc ho pt po sb = ⟨[], 0, 9⟩ := openF_full h4 hform hhold (.inl h10)
      generalize hlf : lastF L = lf at *
      clear hx h10 HC
      go_enter Tryd.func49, Tryd.ntmps49
      go_upto_region 1 with fail
      rw [← hW0.out]
      clear hW0
      have HQ : Hid (openF L pa sc ho pt po sb = ⟨[], 0, 9⟩) := by show _ = _; exact hw9
      go_wp2_with fail
      refine (KI.out 9 _).mono ?_
      rintro e w1 ⟨rfl, hb1⟩
      have X1 : Hid (BoxV w1 (w.heap.size + 1) [.slice none 0 0, .int .i64 0, .int .i64 0]) := XW.out.below hb1
      have B1 : Hid (Below w.heap.size w w1) := BW.out.trans (hb1.mono BW.out.size)
      clear hb1
      have x0 : w1.cell? ⟨(w.heap.size + 1), 0, none⟩ = some (.slice none 0 0) := X1.out.at (i := 0) rfl
      have xf0 : w1.frozen? ⟨(w.heap.size + 1), 0, none⟩ = false := X1.out.free (i := 0) rfl
      have x1 : w1.cell? ⟨(w.heap.size + 1), 1, none⟩ = some (.int .i64 0) := X1.out.at (i := 1) rfl
      have xf1 : w1.frozen? ⟨(w.heap.size + 1), 1, none⟩ = false := X1.out.free (i := 1) rfl
      have x2 : w1.cell? ⟨(w.heap.size + 1), 2, none⟩ = some (.int .i64 0) := X1.out.at (i := 2) rfl
      have xf2 : w1.frozen? ⟨(w.heap.size + 1), 2, none⟩ = false := X1.out.free (i := 2) rfl
      go_wp2
      exact bodyPost_ret (v := .agg #[.slice none 0 0, .int .i64 0, .int .i64 9]) (by simp [results, Tryd.results49, go_sem, x0, x1, x2]) rfl ⟨_, rfl, ⟨.slice none 0 0, by rw [HQ.out], by rw [HQ.out]; exact sliceF_none _ _⟩, (Below.setCell (Below.setCell (Below.setCell B1.out (Nat.le_succ _) _) (Nat.le_succ _) _) (Nat.le_succ _) _)⟩
    have q10 : decide ((10 : Int) ≤ (m0 : Int) + 1) = false := by rw [decide_eq_false_iff_not]; omega
    by_cases hla : lastF L = 1000000
    · have qla : decide ((1000000 : Int) < lastF L + 1) = true := by rw [decide_eq_true_iff]; omega
      rw [hm0] at HV0 q0 ⊢
      have hw9 : openF L pa sc ho pt po sb = ⟨[], 0, 9⟩ := openF_full h4 hform hhold (.inr hla)
      generalize hlf : lastF L = lf at *
      clear hx h10 HC
      go_enter Tryd.func49, Tryd.ntmps49
      go_upto_region 1 with fail
      rw [← hW0.out]
      clear hW0
      have HQ : Hid (openF L pa sc ho pt po sb = ⟨[], 0, 9⟩) := by show _ = _; exact hw9
      go_wp2_with fail
      refine (KI.out 9 _).mono ?_
      rintro e w1 ⟨rfl, hb1⟩
      have X1 : Hid (BoxV w1 (w.heap.size + 1) [.slice none 0 0, .int .i64 0, .int .i64 0]) := XW.out.below hb1
      have B1 : Hid (Below w.heap.size w w1) := BW.out.trans (hb1.mono BW.out.size)
      clear hb1
      have x0 : w1.cell? ⟨(w.heap.size + 1), 0, none⟩ = some (.slice none 0 0) := X1.out.at (i := 0) rfl
      have xf0 : w1.frozen? ⟨(w.heap.size + 1), 0, none⟩ = false := X1.out.free (i := 0) rfl
      have x1 : w1.cell? ⟨(w.heap.size + 1), 1, none⟩ = some (.int .i64 0) := X1.out.at (i := 1) rfl
      have xf1 : w1.frozen? ⟨(w.heap.size + 1), 1, none⟩ = false := X1.out.free (i := 1) rfl
      have x2 : w1.cell? ⟨(w.heap.size + 1), 2, none⟩ = some (.int .i64 0) := X1.out.at (i := 2) rfl
      have xf2 : w1.frozen? ⟨(w.heap.size + 1), 2, none⟩ = false := X1.out.free (i := 2) rfl
      go_wp2
      exact bodyPost_ret (v := .agg #[.slice none 0 0, .int .i64 0, .int .i64 9]) (by simp [results, Tryd.results49, go_sem, x0, x1, x2]) rfl ⟨_, rfl, ⟨.slice none 0 0, by rw [HQ.out], by rw [HQ.out]; exact sliceF_none _ _⟩, (Below.setCell (Below.setCell (Below.setCell B1.out (Nat.le_succ _) _) (Nat.le_succ _) _) (Nat.le_succ _) _)⟩
    have qla : decide ((1000000 : Int) < lastF L + 1) = false := by rw [decide_eq_false_iff_not]; omega
    have HQ : Hid (openF L pa sc ho pt po sb = ⟨L ++ [⟨lastF L + 1, pa, sc, ho, po, pt, sb, false, 0⟩], lastF L + 1, 0⟩) := openF_ok h4 hform hhold h10 hla
    clear hx h10 hla HC HLa
    generalize hnid : lastF L + 1 = nid at *
    generalize lastF L = lf at *
    have hmL : L.length = m0 + 1 := hm0
    rw [hm0] at HV0 q0 ⊢
    go_enter Tryd.func49, Tryd.ntmps49
    go_upto_region 1 with fail
    rw [← hW0.out]
    clear hW0
    have O0 : Hid ((W0.alloc (.cells #[] 60)).ownsRow W0.heap.size 60 9 (.slice (some ⟨W0.heap.size, 0, none⟩) 0 0) 0 (frCells [])) := World.ownsRow_made W0 #[] 0 (Nat.le_refl _) (Nat.zero_le _) rfl
    have AA : Hid (Below W0.heap.size W0 (W0.alloc (.cells #[] 60))) := (Below.refl _ _).alloc (Nat.le_refl _) _
    have zz0 : W0.heap.size ≤ (W0.alloc (.cells #[] 60)).heap.size := by simp
    go_wp2_with (at_builtin; go_must (refine wpList_append_own _ rfl _ _ 25 rfl W0.heap.size 60 i0 (.agg #[.int .i64 0, .int .i64 0, .string ⟨#[]⟩, .string ⟨#[]⟩, .int .i64 0, .string ⟨#[]⟩, .bool false, .bool false, .int .i64 0]) 9 88 Tryd.underlying25 hi hy0 hy1 hy2 rfl (by decide) _ _ _ rfl O0.out ⟨g, 0, none⟩ (m0 + 1) cap (frCells L) rfl (by rw [frCells_len, hmL]) (fun j u h => HCC.out _ AA.out j u h) (one_cellsF L) (by unfold maxLen; omega) (by omega) zz0 ?_))
    intro v6 w6 ho6 hg6 hn6
    have A6 : Hid (Below W0.heap.size W0 w6) := AA.out.grown hg6 zz0 (fun j hj => own_base O0.out j hj)
    have O1 : Hid (w6.ownsRow W0.heap.size 60 9 v6 (m0 + 1) (frCells L)) := by show World.ownsRow _ _ _ _ _ _ _; simpa [frCells] using ho6
    clear ho6 hg6 hn6 O0 AA
    have u0 : w6.cell? ⟨w.heap.size, 0, none⟩ = some (.string sc) := (UW.out.below A6.out).at (i := 0) rfl
    have u1 : w6.cell? ⟨w.heap.size, 1, none⟩ = some (.string ho) := (UW.out.below A6.out).at (i := 1) rfl
    have u2 : w6.cell? ⟨w.heap.size, 2, none⟩ = some (.int .i64 po) := (UW.out.below A6.out).at (i := 2) rfl
    have u3 : w6.cell? ⟨w.heap.size, 3, none⟩ = some (.string pt) := (UW.out.below A6.out).at (i := 3) rfl
    have z6 : W0.heap.size ≤ w6.heap.size := A6.out.size
    go_wp2_with (at_builtin; go_must (refine wpList_append_own _ rfl _ _ 25 rfl W0.heap.size 60 i0 (.agg #[.int .i64 0, .int .i64 0, .string ⟨#[]⟩, .string ⟨#[]⟩, .int .i64 0, .string ⟨#[]⟩, .bool false, .bool false, .int .i64 0]) 9 88 Tryd.underlying25 hi hy0 hy1 hy2 rfl (by decide) _ _ _ rfl (O1.out.alloc _) ⟨w6.heap.size, 0, none⟩ 1 1 (frVals (⟨nid, pa, sc, ho, po, pt, sb, false, 0⟩ : Fr)) rfl rfl (cell_Fr _ (⟨nid, pa, sc, ho, po, pt, sb, false, 0⟩ : Fr) _) (one_Fr (⟨nid, pa, sc, ho, po, pt, sb, false, 0⟩ : Fr)) (by unfold maxLen; omega) (by omega) (by simp; omega) ?_))
    intro v7 w7 ho7 hg7 hn7
    have A7 : Hid (Below W0.heap.size W0 w7) := (A6.out.alloc z6 _).grown hg7 (by simp; omega) (fun j hj => own_base O1.out j hj)
    have S7 : Hid (SliceF w7 W0.heap.size v7 (L ++ [(⟨nid, pa, sc, ho, po, pt, sb, false, 0⟩ : Fr)])) := by
      refine sliceF_of_own (t := 60) ?_
      have h := ho7
      rw [List.length_append, hmL, ← frCells_snoc]
      exact h
    have X7 : Hid (BoxV w7 (w.heap.size + 1) [.slice none 0 0, .int .i64 0, .int .i64 0]) := XW.out.below A7.out
    have B7 : Hid (Below w.heap.size w w7) := BW.out.trans (A7.out.mono BW.out.size)
    obtain ⟨pq, cq, hv7⟩ : ∃ pq cq, v7 = .slice pq (L ++ [(⟨nid, pa, sc, ho, po, pt, sb, false, 0⟩ : Fr)]).length cq := by obtain ⟨⟨p, c, e, -⟩, -⟩ := S7.out; exact ⟨p, c, e⟩
    clear ho7 hg7 hn7 O1 A6 A7 u0 u1 u2 u3
    generalize hm : (L ++ [(⟨nid, pa, sc, ho, po, pt, sb, false, 0⟩ : Fr)]).length = m at *
    subst hv7
    have x0 : w7.cell? ⟨(w.heap.size + 1), 0, none⟩ = some (.slice none 0 0) := X7.out.at (i := 0) rfl
    have xf0 : w7.frozen? ⟨(w.heap.size + 1), 0, none⟩ = false := X7.out.free (i := 0) rfl
    have x1 : w7.cell? ⟨(w.heap.size + 1), 1, none⟩ = some (.int .i64 0) := X7.out.at (i := 1) rfl
    have xf1 : w7.frozen? ⟨(w.heap.size + 1), 1, none⟩ = false := X7.out.free (i := 1) rfl
    have x2 : w7.cell? ⟨(w.heap.size + 1), 2, none⟩ = some (.int .i64 0) := X7.out.at (i := 2) rfl
    have xf2 : w7.frozen? ⟨(w.heap.size + 1), 2, none⟩ = false := X7.out.free (i := 2) rfl
    go_wp2
    refine bodyPost_ret (v := .agg #[.slice pq m cq, .int .i64 nid, .int .i64 0]) (by simp [results, Tryd.results49, go_sem, x0, x1, x2]) rfl ⟨_, rfl, ⟨_, by rw [HQ.out], by rw [HQ.out]; exact (S7.out.store3 hlt0).mono (by omega)⟩, (Below.setCell (Below.setCell (Below.setCell B7.out (Nat.le_succ _) _) (Nat.le_succ _) _) (Nat.le_succ _) _)⟩
  have qp : (pa != 0) = true := by rw [bne_iff_ne]; exact hp0
  by_cases hwh : whF L pa < 0
  · have qw : decide (whF L pa < 0) = true := decide_eq_true hwh
    have hhold : holdF L pa = false := by unfold holdF; rw [decide_eq_false (by omega), Bool.or_false, beq_eq_false_iff_ne]; exact hp0
    have hw6 : openF L pa sc ho pt po sb = ⟨[], 0, 6⟩ := openF_none h4 hform hhold
    generalize whF L pa = wh at *
    clear hhold hwh hp0 HG
    go_enter Tryd.func49, Tryd.ntmps49
    go_upto_region 1 with fail
    rw [← hW0.out]
    clear hW0
    go_wp2_with fail
    refine (KA.out _ BW.out).mono ?_
    rintro e w1 ⟨rfl, e1⟩
    have e2 := e1.symm
    subst e2
    have HQ : Hid (openF L pa sc ho pt po sb = ⟨[], 0, 6⟩) := by show _ = _; exact hw6
    go_wp2_with fail
    refine (KI.out 6 _).mono ?_
    rintro e w1 ⟨rfl, hb1⟩
    have X1 : Hid (BoxV w1 (w.heap.size + 1) [.slice none 0 0, .int .i64 0, .int .i64 0]) := XW.out.below hb1
    have B1 : Hid (Below w.heap.size w w1) := BW.out.trans (hb1.mono BW.out.size)
    clear hb1
    have x0 : w1.cell? ⟨(w.heap.size + 1), 0, none⟩ = some (.slice none 0 0) := X1.out.at (i := 0) rfl
    have xf0 : w1.frozen? ⟨(w.heap.size + 1), 0, none⟩ = false := X1.out.free (i := 0) rfl
    have x1 : w1.cell? ⟨(w.heap.size + 1), 1, none⟩ = some (.int .i64 0) := X1.out.at (i := 1) rfl
    have xf1 : w1.frozen? ⟨(w.heap.size + 1), 1, none⟩ = false := X1.out.free (i := 1) rfl
    have x2 : w1.cell? ⟨(w.heap.size + 1), 2, none⟩ = some (.int .i64 0) := X1.out.at (i := 2) rfl
    have xf2 : w1.frozen? ⟨(w.heap.size + 1), 2, none⟩ = false := X1.out.free (i := 2) rfl
    go_wp2
    exact bodyPost_ret (v := .agg #[.slice none 0 0, .int .i64 0, .int .i64 6]) (by simp [results, Tryd.results49, go_sem, x0, x1, x2]) rfl ⟨_, rfl, ⟨.slice none 0 0, by rw [HQ.out], by rw [HQ.out]; exact sliceF_none _ _⟩, (Below.setCell (Below.setCell (Below.setCell B1.out (Nat.le_succ _) _) (Nat.le_succ _) _) (Nat.le_succ _) _)⟩
  have qw : decide (whF L pa < 0) = false := by rw [decide_eq_false_iff_not]; exact hwh
  have hhold : holdF L pa = true := by unfold holdF; rw [decide_eq_true (by omega), Bool.or_true]
  generalize whF L pa = wh at *
  clear hp0 hwh
  by_cases h0 : L.length = 0
  · have HL0 : Hid (L = []) := List.length_eq_zero_iff.1 h0
    have q0 : decide ((0 : Int) < (L.length : Int)) = false := by rw [decide_eq_false_iff_not]; omega
    have q10 : decide ((10 : Int) ≤ (L.length : Int)) = false := by rw [decide_eq_false_iff_not]; omega
    have HQ : Hid (openF L pa sc ho pt po sb = ⟨L ++ [⟨1, pa, sc, ho, po, pt, sb, false, 0⟩], 1, 0⟩) := by
      have h1 : lastF L = 0 := by unfold lastF; rw [if_pos h0]
      have h := openF_ok h4 hform hhold (by omega) (by omega)
      unfold oneF at h
      rw [h1] at h
      exact h
    clear HLa
    cases p with
    | none =>
      have hc0 : cap = 0 := hpn rfl
      subst hc0
      rw [h0] at HV0 q0 q10 KA ⊢
      clear h0
      go_enter Tryd.func49, Tryd.ntmps49
      go_upto_region 1 with fail
      rw [← hW0.out]
      clear hW0
      go_wp2_with fail
      refine (KA.out _ BW.out).mono ?_
      rintro e w1 ⟨rfl, e1⟩
      have e2 := e1.symm
      subst e2
      have O0 : Hid ((W0.alloc (.cells #[] 60)).ownsRow W0.heap.size 60 9 (.slice (some ⟨W0.heap.size, 0, none⟩) 0 0) 0 (frCells [])) := World.ownsRow_made W0 #[] 0 (Nat.le_refl _) (Nat.zero_le _) rfl
      have AA : Hid (Below W0.heap.size W0 (W0.alloc (.cells #[] 60))) := (Below.refl _ _).alloc (Nat.le_refl _) _
      have zz0 : W0.heap.size ≤ (W0.alloc (.cells #[] 60)).heap.size := by simp
      go_wp2_with (at_builtin; go_must (refine wpList_append_nilF rfl _ _ 25 rfl W0.heap.size 60 i0 9 Tryd.underlying25 hi _ _ _ rfl O0.out rfl ?_))
      intro w6 hw6
      have A6 : Hid (Below W0.heap.size W0 w6) := by show Below _ _ _; rw [hw6.out]; exact AA.out
      have O1 : Hid (w6.ownsRow W0.heap.size 60 9 (.slice (some ⟨W0.heap.size, 0, none⟩) 0 0) 0 (frCells [])) := by show World.ownsRow _ _ _ _ _ _ _; rw [hw6.out]; exact O0.out
      clear O0 AA hw6
      have u0 : w6.cell? ⟨w.heap.size, 0, none⟩ = some (.string sc) := (UW.out.below A6.out).at (i := 0) rfl
      have u1 : w6.cell? ⟨w.heap.size, 1, none⟩ = some (.string ho) := (UW.out.below A6.out).at (i := 1) rfl
      have u2 : w6.cell? ⟨w.heap.size, 2, none⟩ = some (.int .i64 po) := (UW.out.below A6.out).at (i := 2) rfl
      have u3 : w6.cell? ⟨w.heap.size, 3, none⟩ = some (.string pt) := (UW.out.below A6.out).at (i := 3) rfl
      have z6 : W0.heap.size ≤ w6.heap.size := A6.out.size
      go_wp2_with (at_builtin; go_must (refine wpList_append_own _ rfl _ _ 25 rfl W0.heap.size 60 i0 (.agg #[.int .i64 0, .int .i64 0, .string ⟨#[]⟩, .string ⟨#[]⟩, .int .i64 0, .string ⟨#[]⟩, .bool false, .bool false, .int .i64 0]) 9 88 Tryd.underlying25 hi hy0 hy1 hy2 rfl (by decide) _ _ _ rfl (O1.out.alloc _) ⟨w6.heap.size, 0, none⟩ 1 1 (frVals (⟨1, pa, sc, ho, po, pt, sb, false, 0⟩ : Fr)) rfl rfl (cell_Fr _ (⟨1, pa, sc, ho, po, pt, sb, false, 0⟩ : Fr) _) (one_Fr (⟨1, pa, sc, ho, po, pt, sb, false, 0⟩ : Fr)) (by unfold maxLen; omega) (by omega) (by simp; omega) ?_))
      intro v7 w7 ho7 hg7 hn7
      have A7 : Hid (Below W0.heap.size W0 w7) := (A6.out.alloc z6 _).grown hg7 (by simp; omega) (fun j hj => own_base O1.out j hj)
      have S7 : Hid (SliceF w7 W0.heap.size v7 (L ++ [(⟨1, pa, sc, ho, po, pt, sb, false, 0⟩ : Fr)])) := by
        show SliceF _ _ _ _
        rw [HL0.out]
        exact sliceF_of_own (t := 60) (L := [(⟨1, pa, sc, ho, po, pt, sb, false, 0⟩ : Fr)]) (by simpa [frCells] using ho7)
      have X7 : Hid (BoxV w7 (w.heap.size + 1) [.slice none 0 0, .int .i64 0, .int .i64 0]) := XW.out.below A7.out
      have B7 : Hid (Below w.heap.size w w7) := BW.out.trans (A7.out.mono BW.out.size)
      obtain ⟨pq, cq, hv7⟩ : ∃ pq cq, v7 = .slice pq (L ++ [(⟨1, pa, sc, ho, po, pt, sb, false, 0⟩ : Fr)]).length cq := by obtain ⟨⟨p, c, e, -⟩, -⟩ := S7.out; exact ⟨p, c, e⟩
      clear ho7 hg7 hn7 O1 A6 A7 u0 u1 u2 u3
      generalize hm : (L ++ [(⟨1, pa, sc, ho, po, pt, sb, false, 0⟩ : Fr)]).length = m at *
      subst hv7
      have x0 : w7.cell? ⟨(w.heap.size + 1), 0, none⟩ = some (.slice none 0 0) := X7.out.at (i := 0) rfl
      have xf0 : w7.frozen? ⟨(w.heap.size + 1), 0, none⟩ = false := X7.out.free (i := 0) rfl
      have x1 : w7.cell? ⟨(w.heap.size + 1), 1, none⟩ = some (.int .i64 0) := X7.out.at (i := 1) rfl
      have xf1 : w7.frozen? ⟨(w.heap.size + 1), 1, none⟩ = false := X7.out.free (i := 1) rfl
      have x2 : w7.cell? ⟨(w.heap.size + 1), 2, none⟩ = some (.int .i64 0) := X7.out.at (i := 2) rfl
      have xf2 : w7.frozen? ⟨(w.heap.size + 1), 2, none⟩ = false := X7.out.free (i := 2) rfl
      go_wp2
      refine bodyPost_ret (v := .agg #[.slice pq m cq, .int .i64 1, .int .i64 0]) (by simp [results, Tryd.results49, go_sem, x0, x1, x2]) rfl ⟨_, rfl, ⟨_, by rw [HQ.out], by rw [HQ.out]; exact (S7.out.store3 hlt0).mono (by omega)⟩, (Below.setCell (Below.setCell (Below.setCell B7.out (Nat.le_succ _) _) (Nat.le_succ _) _) (Nat.le_succ _) _)⟩
    | some ad =>
      obtain ⟨a0, a1, a2⟩ := ad
      rw [h0] at HV0 q0 q10 KA ⊢
      clear h0
      go_enter Tryd.func49, Tryd.ntmps49
      go_upto_region 1 with fail
      rw [← hW0.out]
      clear hW0
      go_wp2_with fail
      refine (KA.out _ BW.out).mono ?_
      rintro e w1 ⟨rfl, e1⟩
      have e2 := e1.symm
      subst e2
      have O0 : Hid ((W0.alloc (.cells #[] 60)).ownsRow W0.heap.size 60 9 (.slice (some ⟨W0.heap.size, 0, none⟩) 0 0) 0 (frCells [])) := World.ownsRow_made W0 #[] 0 (Nat.le_refl _) (Nat.zero_le _) rfl
      have AA : Hid (Below W0.heap.size W0 (W0.alloc (.cells #[] 60))) := (Below.refl _ _).alloc (Nat.le_refl _) _
      have zz0 : W0.heap.size ≤ (W0.alloc (.cells #[] 60)).heap.size := by simp
      go_wp2_with (at_builtin; go_must (refine wpList_append_own _ rfl _ _ 25 rfl W0.heap.size 60 i0 (.agg #[.int .i64 0, .int .i64 0, .string ⟨#[]⟩, .string ⟨#[]⟩, .int .i64 0, .string ⟨#[]⟩, .bool false, .bool false, .int .i64 0]) 9 88 Tryd.underlying25 hi hy0 hy1 hy2 rfl (by decide) _ _ _ rfl O0.out ⟨a0, a1, a2⟩ 0 cap [] rfl rfl (by intro j u h; cases h) (by intro v h; cases h) (by unfold maxLen; omega) (by omega) zz0 ?_))
      intro v6 w6 ho6 hg6 hn6
      have A6 : Hid (Below W0.heap.size W0 w6) := AA.out.grown hg6 zz0 (fun j hj => own_base O0.out j hj)
      have O1 : Hid (w6.ownsRow W0.heap.size 60 9 v6 0 (frCells [])) := by show World.ownsRow _ _ _ _ _ _ _; simpa [frCells] using ho6
      clear ho6 hg6 hn6 O0 AA
      have u0 : w6.cell? ⟨w.heap.size, 0, none⟩ = some (.string sc) := (UW.out.below A6.out).at (i := 0) rfl
      have u1 : w6.cell? ⟨w.heap.size, 1, none⟩ = some (.string ho) := (UW.out.below A6.out).at (i := 1) rfl
      have u2 : w6.cell? ⟨w.heap.size, 2, none⟩ = some (.int .i64 po) := (UW.out.below A6.out).at (i := 2) rfl
      have u3 : w6.cell? ⟨w.heap.size, 3, none⟩ = some (.string pt) := (UW.out.below A6.out).at (i := 3) rfl
      have z6 : W0.heap.size ≤ w6.heap.size := A6.out.size
      go_wp2_with (at_builtin; go_must (refine wpList_append_own _ rfl _ _ 25 rfl W0.heap.size 60 i0 (.agg #[.int .i64 0, .int .i64 0, .string ⟨#[]⟩, .string ⟨#[]⟩, .int .i64 0, .string ⟨#[]⟩, .bool false, .bool false, .int .i64 0]) 9 88 Tryd.underlying25 hi hy0 hy1 hy2 rfl (by decide) _ _ _ rfl (O1.out.alloc _) ⟨w6.heap.size, 0, none⟩ 1 1 (frVals (⟨1, pa, sc, ho, po, pt, sb, false, 0⟩ : Fr)) rfl rfl (cell_Fr _ (⟨1, pa, sc, ho, po, pt, sb, false, 0⟩ : Fr) _) (one_Fr (⟨1, pa, sc, ho, po, pt, sb, false, 0⟩ : Fr)) (by unfold maxLen; omega) (by omega) (by simp; omega) ?_))
      intro v7 w7 ho7 hg7 hn7
      have A7 : Hid (Below W0.heap.size W0 w7) := (A6.out.alloc z6 _).grown hg7 (by simp; omega) (fun j hj => own_base O1.out j hj)
      have S7 : Hid (SliceF w7 W0.heap.size v7 (L ++ [(⟨1, pa, sc, ho, po, pt, sb, false, 0⟩ : Fr)])) := by
        show SliceF _ _ _ _
        rw [HL0.out]
        exact sliceF_of_own (t := 60) (L := [(⟨1, pa, sc, ho, po, pt, sb, false, 0⟩ : Fr)]) (by simpa [frCells] using ho7)
      have X7 : Hid (BoxV w7 (w.heap.size + 1) [.slice none 0 0, .int .i64 0, .int .i64 0]) := XW.out.below A7.out
      have B7 : Hid (Below w.heap.size w w7) := BW.out.trans (A7.out.mono BW.out.size)
      obtain ⟨pq, cq, hv7⟩ : ∃ pq cq, v7 = .slice pq (L ++ [(⟨1, pa, sc, ho, po, pt, sb, false, 0⟩ : Fr)]).length cq := by obtain ⟨⟨p, c, e, -⟩, -⟩ := S7.out; exact ⟨p, c, e⟩
      clear ho7 hg7 hn7 O1 A6 A7 u0 u1 u2 u3
      generalize hm : (L ++ [(⟨1, pa, sc, ho, po, pt, sb, false, 0⟩ : Fr)]).length = m at *
      subst hv7
      have x0 : w7.cell? ⟨(w.heap.size + 1), 0, none⟩ = some (.slice none 0 0) := X7.out.at (i := 0) rfl
      have xf0 : w7.frozen? ⟨(w.heap.size + 1), 0, none⟩ = false := X7.out.free (i := 0) rfl
      have x1 : w7.cell? ⟨(w.heap.size + 1), 1, none⟩ = some (.int .i64 0) := X7.out.at (i := 1) rfl
      have xf1 : w7.frozen? ⟨(w.heap.size + 1), 1, none⟩ = false := X7.out.free (i := 1) rfl
      have x2 : w7.cell? ⟨(w.heap.size + 1), 2, none⟩ = some (.int .i64 0) := X7.out.at (i := 2) rfl
      have xf2 : w7.frozen? ⟨(w.heap.size + 1), 2, none⟩ = false := X7.out.free (i := 2) rfl
      go_wp2
      refine bodyPost_ret (v := .agg #[.slice pq m cq, .int .i64 1, .int .i64 0]) (by simp [results, Tryd.results49, go_sem, x0, x1, x2]) rfl ⟨_, rfl, ⟨_, by rw [HQ.out], by rw [HQ.out]; exact (S7.out.store3 hlt0).mono (by omega)⟩, (Below.setCell (Below.setCell (Below.setCell B7.out (Nat.le_succ _) _) (Nat.le_succ _) _) (Nat.le_succ _) _)⟩
  obtain ⟨g, rfl, hgw, HC, HCC⟩ := HG.out (by omega)
  have q0 : decide ((0 : Int) < (L.length : Int)) = true := by rw [decide_eq_true_iff]; omega
  have hx : lastF L = (atF L (L.length - 1)).id := by unfold lastF; rw [if_neg h0]
  have hlb := HLa.out
  have c0 : W0.cell? ⟨g, (L.length - 1) * 9, none⟩ = some (.int .i64 (lastF L)) := by rw [hx]; exact HC
  have hl10 : L.length ≤ 10 := HL10
  obtain ⟨m0, hm0⟩ : ∃ m, L.length = m + 1 := ⟨L.length - 1, by omega⟩
  have hw1 : IntKind.i64.wrap (((m0 + 1 : Nat) : Int) - 1) = m0 := by rw [IntKind.wrap_i64]; omega
  have mz0 : (0 : Int) ≤ m0 := by omega
  have mz1 : (m0 : Int) < ((m0 + 1 : Nat) : Int) := by omega
  rw [hm0, Nat.add_sub_cancel] at c0
  have hwn : IntKind.i64.wrap (lastF L + 1) = lastF L + 1 := by rw [IntKind.wrap_i64]; omega
  by_cases h10 : L.length = 10
  · have q10 : decide ((10 : Int) ≤ (m0 : Int) + 1) = true := by rw [decide_eq_true_iff]; omega
    rw [hm0] at HV0 q0 KA ⊢
    have hw9 : openF L pa sc ho pt po sb = ⟨[], 0, 9⟩ := openF_full h4 hform hhold (.inl h10)
    generalize hlf : lastF L = lf at *
    clear hx h10 HC
    go_enter Tryd.func49, Tryd.ntmps49
    go_upto_region 1 with fail
    rw [← hW0.out]
    clear hW0
    go_wp2_with fail
    refine (KA.out _ BW.out).mono ?_
    rintro e w1 ⟨rfl, e1⟩
    have e2 := e1.symm
    subst e2
    have HQ : Hid (openF L pa sc ho pt po sb = ⟨[], 0, 9⟩) := by show _ = _; exact hw9
    go_wp2_with fail
    refine (KI.out 9 _).mono ?_
    rintro e w1 ⟨rfl, hb1⟩
    have X1 : Hid (BoxV w1 (w.heap.size + 1) [.slice none 0 0, .int .i64 0, .int .i64 0]) := XW.out.below hb1
    have B1 : Hid (Below w.heap.size w w1) := BW.out.trans (hb1.mono BW.out.size)
    clear hb1
    have x0 : w1.cell? ⟨(w.heap.size + 1), 0, none⟩ = some (.slice none 0 0) := X1.out.at (i := 0) rfl
    have xf0 : w1.frozen? ⟨(w.heap.size + 1), 0, none⟩ = false := X1.out.free (i := 0) rfl
    have x1 : w1.cell? ⟨(w.heap.size + 1), 1, none⟩ = some (.int .i64 0) := X1.out.at (i := 1) rfl
    have xf1 : w1.frozen? ⟨(w.heap.size + 1), 1, none⟩ = false := X1.out.free (i := 1) rfl
    have x2 : w1.cell? ⟨(w.heap.size + 1), 2, none⟩ = some (.int .i64 0) := X1.out.at (i := 2) rfl
    have xf2 : w1.frozen? ⟨(w.heap.size + 1), 2, none⟩ = false := X1.out.free (i := 2) rfl
    go_wp2
    exact bodyPost_ret (v := .agg #[.slice none 0 0, .int .i64 0, .int .i64 9]) (by simp [results, Tryd.results49, go_sem, x0, x1, x2]) rfl ⟨_, rfl, ⟨.slice none 0 0, by rw [HQ.out], by rw [HQ.out]; exact sliceF_none _ _⟩, (Below.setCell (Below.setCell (Below.setCell B1.out (Nat.le_succ _) _) (Nat.le_succ _) _) (Nat.le_succ _) _)⟩
  have q10 : decide ((10 : Int) ≤ (m0 : Int) + 1) = false := by rw [decide_eq_false_iff_not]; omega
  by_cases hla : lastF L = 1000000
  · have qla : decide ((1000000 : Int) < lastF L + 1) = true := by rw [decide_eq_true_iff]; omega
    rw [hm0] at HV0 q0 KA ⊢
    have hw9 : openF L pa sc ho pt po sb = ⟨[], 0, 9⟩ := openF_full h4 hform hhold (.inr hla)
    generalize hlf : lastF L = lf at *
    clear hx h10 HC
    go_enter Tryd.func49, Tryd.ntmps49
    go_upto_region 1 with fail
    rw [← hW0.out]
    clear hW0
    go_wp2_with fail
    refine (KA.out _ BW.out).mono ?_
    rintro e w1 ⟨rfl, e1⟩
    have e2 := e1.symm
    subst e2
    have HQ : Hid (openF L pa sc ho pt po sb = ⟨[], 0, 9⟩) := by show _ = _; exact hw9
    go_wp2_with fail
    refine (KI.out 9 _).mono ?_
    rintro e w1 ⟨rfl, hb1⟩
    have X1 : Hid (BoxV w1 (w.heap.size + 1) [.slice none 0 0, .int .i64 0, .int .i64 0]) := XW.out.below hb1
    have B1 : Hid (Below w.heap.size w w1) := BW.out.trans (hb1.mono BW.out.size)
    clear hb1
    have x0 : w1.cell? ⟨(w.heap.size + 1), 0, none⟩ = some (.slice none 0 0) := X1.out.at (i := 0) rfl
    have xf0 : w1.frozen? ⟨(w.heap.size + 1), 0, none⟩ = false := X1.out.free (i := 0) rfl
    have x1 : w1.cell? ⟨(w.heap.size + 1), 1, none⟩ = some (.int .i64 0) := X1.out.at (i := 1) rfl
    have xf1 : w1.frozen? ⟨(w.heap.size + 1), 1, none⟩ = false := X1.out.free (i := 1) rfl
    have x2 : w1.cell? ⟨(w.heap.size + 1), 2, none⟩ = some (.int .i64 0) := X1.out.at (i := 2) rfl
    have xf2 : w1.frozen? ⟨(w.heap.size + 1), 2, none⟩ = false := X1.out.free (i := 2) rfl
    go_wp2
    exact bodyPost_ret (v := .agg #[.slice none 0 0, .int .i64 0, .int .i64 9]) (by simp [results, Tryd.results49, go_sem, x0, x1, x2]) rfl ⟨_, rfl, ⟨.slice none 0 0, by rw [HQ.out], by rw [HQ.out]; exact sliceF_none _ _⟩, (Below.setCell (Below.setCell (Below.setCell B1.out (Nat.le_succ _) _) (Nat.le_succ _) _) (Nat.le_succ _) _)⟩
  have qla : decide ((1000000 : Int) < lastF L + 1) = false := by rw [decide_eq_false_iff_not]; omega
  have HQ : Hid (openF L pa sc ho pt po sb = ⟨L ++ [⟨lastF L + 1, pa, sc, ho, po, pt, sb, false, 0⟩], lastF L + 1, 0⟩) := openF_ok h4 hform hhold h10 hla
  clear hx h10 hla HC HLa
  generalize hnid : lastF L + 1 = nid at *
  generalize lastF L = lf at *
  have hmL : L.length = m0 + 1 := hm0
  rw [hm0] at HV0 q0 KA ⊢
  go_enter Tryd.func49, Tryd.ntmps49
  go_upto_region 1 with fail
  rw [← hW0.out]
  clear hW0
  go_wp2_with fail
  refine (KA.out _ BW.out).mono ?_
  rintro e w1 ⟨rfl, e1⟩
  have e2 := e1.symm
  subst e2
  have O0 : Hid ((W0.alloc (.cells #[] 60)).ownsRow W0.heap.size 60 9 (.slice (some ⟨W0.heap.size, 0, none⟩) 0 0) 0 (frCells [])) := World.ownsRow_made W0 #[] 0 (Nat.le_refl _) (Nat.zero_le _) rfl
  have AA : Hid (Below W0.heap.size W0 (W0.alloc (.cells #[] 60))) := (Below.refl _ _).alloc (Nat.le_refl _) _
  have zz0 : W0.heap.size ≤ (W0.alloc (.cells #[] 60)).heap.size := by simp
  go_wp2_with (at_builtin; go_must (refine wpList_append_own _ rfl _ _ 25 rfl W0.heap.size 60 i0 (.agg #[.int .i64 0, .int .i64 0, .string ⟨#[]⟩, .string ⟨#[]⟩, .int .i64 0, .string ⟨#[]⟩, .bool false, .bool false, .int .i64 0]) 9 88 Tryd.underlying25 hi hy0 hy1 hy2 rfl (by decide) _ _ _ rfl O0.out ⟨g, 0, none⟩ (m0 + 1) cap (frCells L) rfl (by rw [frCells_len, hmL]) (fun j u h => HCC.out _ AA.out j u h) (one_cellsF L) (by unfold maxLen; omega) (by omega) zz0 ?_))
  intro v6 w6 ho6 hg6 hn6
  have A6 : Hid (Below W0.heap.size W0 w6) := AA.out.grown hg6 zz0 (fun j hj => own_base O0.out j hj)
  have O1 : Hid (w6.ownsRow W0.heap.size 60 9 v6 (m0 + 1) (frCells L)) := by show World.ownsRow _ _ _ _ _ _ _; simpa [frCells] using ho6
  clear ho6 hg6 hn6 O0 AA
  have u0 : w6.cell? ⟨w.heap.size, 0, none⟩ = some (.string sc) := (UW.out.below A6.out).at (i := 0) rfl
  have u1 : w6.cell? ⟨w.heap.size, 1, none⟩ = some (.string ho) := (UW.out.below A6.out).at (i := 1) rfl
  have u2 : w6.cell? ⟨w.heap.size, 2, none⟩ = some (.int .i64 po) := (UW.out.below A6.out).at (i := 2) rfl
  have u3 : w6.cell? ⟨w.heap.size, 3, none⟩ = some (.string pt) := (UW.out.below A6.out).at (i := 3) rfl
  have z6 : W0.heap.size ≤ w6.heap.size := A6.out.size
  go_wp2_with (at_builtin; go_must (refine wpList_append_own _ rfl _ _ 25 rfl W0.heap.size 60 i0 (.agg #[.int .i64 0, .int .i64 0, .string ⟨#[]⟩, .string ⟨#[]⟩, .int .i64 0, .string ⟨#[]⟩, .bool false, .bool false, .int .i64 0]) 9 88 Tryd.underlying25 hi hy0 hy1 hy2 rfl (by decide) _ _ _ rfl (O1.out.alloc _) ⟨w6.heap.size, 0, none⟩ 1 1 (frVals (⟨nid, pa, sc, ho, po, pt, sb, false, 0⟩ : Fr)) rfl rfl (cell_Fr _ (⟨nid, pa, sc, ho, po, pt, sb, false, 0⟩ : Fr) _) (one_Fr (⟨nid, pa, sc, ho, po, pt, sb, false, 0⟩ : Fr)) (by unfold maxLen; omega) (by omega) (by simp; omega) ?_))
  intro v7 w7 ho7 hg7 hn7
  have A7 : Hid (Below W0.heap.size W0 w7) := (A6.out.alloc z6 _).grown hg7 (by simp; omega) (fun j hj => own_base O1.out j hj)
  have S7 : Hid (SliceF w7 W0.heap.size v7 (L ++ [(⟨nid, pa, sc, ho, po, pt, sb, false, 0⟩ : Fr)])) := by
    refine sliceF_of_own (t := 60) ?_
    have h := ho7
    rw [List.length_append, hmL, ← frCells_snoc]
    exact h
  have X7 : Hid (BoxV w7 (w.heap.size + 1) [.slice none 0 0, .int .i64 0, .int .i64 0]) := XW.out.below A7.out
  have B7 : Hid (Below w.heap.size w w7) := BW.out.trans (A7.out.mono BW.out.size)
  obtain ⟨pq, cq, hv7⟩ : ∃ pq cq, v7 = .slice pq (L ++ [(⟨nid, pa, sc, ho, po, pt, sb, false, 0⟩ : Fr)]).length cq := by obtain ⟨⟨p, c, e, -⟩, -⟩ := S7.out; exact ⟨p, c, e⟩
  clear ho7 hg7 hn7 O1 A6 A7 u0 u1 u2 u3
  generalize hm : (L ++ [(⟨nid, pa, sc, ho, po, pt, sb, false, 0⟩ : Fr)]).length = m at *
  subst hv7
  have x0 : w7.cell? ⟨(w.heap.size + 1), 0, none⟩ = some (.slice none 0 0) := X7.out.at (i := 0) rfl
  have xf0 : w7.frozen? ⟨(w.heap.size + 1), 0, none⟩ = false := X7.out.free (i := 0) rfl
  have x1 : w7.cell? ⟨(w.heap.size + 1), 1, none⟩ = some (.int .i64 0) := X7.out.at (i := 1) rfl
  have xf1 : w7.frozen? ⟨(w.heap.size + 1), 1, none⟩ = false := X7.out.free (i := 1) rfl
  have x2 : w7.cell? ⟨(w.heap.size + 1), 2, none⟩ = some (.int .i64 0) := X7.out.at (i := 2) rfl
  have xf2 : w7.frozen? ⟨(w.heap.size + 1), 2, none⟩ = false := X7.out.free (i := 2) rfl
  go_wp2
  refine bodyPost_ret (v := .agg #[.slice pq m cq, .int .i64 nid, .int .i64 0]) (by simp [results, Tryd.results49, go_sem, x0, x1, x2]) rfl ⟨_, rfl, ⟨_, by rw [HQ.out], by rw [HQ.out]; exact (S7.out.store3 hlt0).mono (by omega)⟩, (Below.setCell (Below.setCell (Below.setCell B7.out (Nat.le_succ _) _) (Nat.le_succ _) _) (Nat.le_succ _) _)⟩
end Go.Proofs.YtnpaekjiafaahaaDoor

/- The walk of the specification's FrameOpen. Written by specopen.py. -/
namespace Go.Proofs.YtnpaekjiafaahaaDoor
open Go.RowKit

set_option maxRecDepth 10000 in
set_option maxHeartbeats 16000000 in
theorem specFrameOpen_any (v : Value) (L : List Fr) (B : Nat) (pa : Int) (sc ho pt : ByteArray) (po : Int) (sb : Bool) (w : World) (hs : SliceF w B v L) (hn : L.length ≤ 1048576) :
    Calls Tryd.prog 16 #[v, .int .i64 pa, .agg #[.string sc, .string ho, .int .i64 po, .string pt], .bool sb] w fun e w' => ∃ v', e = .returned v' ∧ AnsF w' w.heap.size v' (openF L pa sc ho pt po sb) ∧ Below w.heap.size w w' := by
  have KI : Hid (∀ c W, Calls Tryd.prog 48 #[.int .i64 c] W fun e w' => e = .returned (.agg #[.slice none 0 0, .int .i64 0, .int .i64 c]) ∧ Below W.heap.size W w') := fun c W => specIll9_any c W
  have KR : Hid (∀ W, Below w.heap.size w W → Calls Tryd.prog 11 #[v] W fun e w' => e = .returned (.bool (framesB L)) ∧ Below W.heap.size W w') := fun W hb => specFrames_any v L B W (hs.below hb) hn
  have KU : Hid (∀ W, Calls Tryd.prog 41 #[.agg #[.string sc, .string ho, .int .i64 po, .string pt]] W fun e w' => e = .returned (.bool (urlB sc ho pt po)) ∧ Below W.heap.size W w') := fun W => specUrlRight_any sc ho pt po W
  have KO0 : ¬ 400 < L.length → (framesB L && urlB sc ho pt po && boxF pa sb) = true → ∀ W, Below w.heap.size w W → Calls Tryd.prog 49 #[v, .int .i64 pa, .agg #[.string sc, .string ho, .int .i64 po, .string pt], .bool sb] W fun e w' => ∃ v', e = .returned v' ∧ AnsF w' W.heap.size v' (openF L pa sc ho pt po sb) ∧ Below W.heap.size W w' := fun h4 h W hb => specOpen9_any v L B pa sc ho pt po sb W (hs.below hb) h4 h
  obtain ⟨W0, hW⟩ : ∃ W0, W0 = ((w.alloc (.cells #[.string sc, .string ho, .int .i64 po, .string pt] 35)).alloc (.cells #[.slice none 0 0, .int .i64 0, .int .i64 0] 33)) := ⟨_, rfl⟩
  have hW0 : Hid (W0 = ((w.alloc (.cells #[.string sc, .string ho, .int .i64 po, .string pt] 35)).alloc (.cells #[.slice none 0 0, .int .i64 0, .int .i64 0] 33))) := hW
  have U0 : Hid (BoxV W0 w.heap.size [.string sc, .string ho, .int .i64 po, .string pt]) := by show BoxV _ _ _; rw [hW]; exact (boxV_new w [.string sc, .string ho, .int .i64 po, .string pt] 35).alloc _
  have X0 : Hid (BoxV W0 (w.heap.size + 1) [.slice none 0 0, .int .i64 0, .int .i64 0]) := by
    show BoxV _ _ _
    rw [hW]
    have h := boxV_new (w.alloc (.cells #[.string sc, .string ho, .int .i64 po, .string pt] 35)) [.slice none 0 0, .int .i64 0, .int .i64 0] 33
    rw [World.size_alloc] at h
    exact h
  have B0 : Hid (Below w.heap.size w W0) := by show Below _ _ _; rw [hW]; exact ((Below.refl _ _).alloc (Nat.le_refl _) _).alloc (by simp) _
  obtain ⟨p, cap, rfl⟩ : ∃ p cap, v = .slice p L.length cap := by obtain ⟨-, p, c, e, -⟩ := hs; exact ⟨p, c, e⟩
  clear hW hs
  by_cases h4 : 400 < L.length
  · have q4 : decide ((400 : Int) < (L.length : Int)) = true := by rw [decide_eq_true_iff]; omega
    clear KO0
    go_enter Tryd.func16, Tryd.ntmps16
    go_upto_region 1 with fail
    rw [← hW0.out]
    clear hW0
    have HQ : Hid (openF L pa sc ho pt po sb = ⟨[], 0, 2⟩) := by show _ = _; exact openF_size h4
    go_wp2_with fail
    refine (KI.out 2 _).mono ?_
    rintro e w9 ⟨rfl, hb9⟩
    have X9 : Hid (BoxV w9 (w.heap.size + 1) [.slice none 0 0, .int .i64 0, .int .i64 0]) := X0.out.below hb9
    have B9 : Hid (Below w.heap.size w w9) := B0.out.trans (hb9.mono B0.out.size)
    clear hb9
    have x0 : w9.cell? ⟨(w.heap.size + 1), 0, none⟩ = some (.slice none 0 0) := X9.out.at (i := 0) rfl
    have xf0 : w9.frozen? ⟨(w.heap.size + 1), 0, none⟩ = false := X9.out.free (i := 0) rfl
    have x1 : w9.cell? ⟨(w.heap.size + 1), 1, none⟩ = some (.int .i64 0) := X9.out.at (i := 1) rfl
    have xf1 : w9.frozen? ⟨(w.heap.size + 1), 1, none⟩ = false := X9.out.free (i := 1) rfl
    have x2 : w9.cell? ⟨(w.heap.size + 1), 2, none⟩ = some (.int .i64 0) := X9.out.at (i := 2) rfl
    have xf2 : w9.frozen? ⟨(w.heap.size + 1), 2, none⟩ = false := X9.out.free (i := 2) rfl
    go_wp2
    exact bodyPost_ret (v := .agg #[.slice none 0 0, .int .i64 0, .int .i64 2]) (by simp [results, Tryd.results16, go_sem, x0, x1, x2]) rfl ⟨_, rfl, ⟨.slice none 0 0, by rw [HQ.out], by rw [HQ.out]; exact sliceF_none _ _⟩, (Below.setCell (Below.setCell (Below.setCell B9.out (Nat.le_succ _) _) (Nat.le_succ _) _) (Nat.le_succ _) _)⟩
  have q4 : decide ((400 : Int) < (L.length : Int)) = false := by rw [decide_eq_false_iff_not]; omega
  have KO : Hid ((framesB L && urlB sc ho pt po && boxF pa sb) = true → ∀ W, Below w.heap.size w W → Calls Tryd.prog 49 #[.slice p L.length cap, .int .i64 pa, .agg #[.string sc, .string ho, .int .i64 po, .string pt], .bool sb] W fun e w' => ∃ v', e = .returned v' ∧ AnsF w' W.heap.size v' (openF L pa sc ho pt po sb) ∧ Below W.heap.size W w') := fun h => KO0 h4 h
  clear KO0
  go_enter Tryd.func16, Tryd.ntmps16
  go_upto_region 1 with fail
  rw [← hW0.out]
  clear hW0
  go_wp2_with fail
  refine (KR.out _ B0.out).mono ?_
  rintro e w1 ⟨rfl, hb1⟩
  have X1 : Hid (BoxV w1 (w.heap.size + 1) [.slice none 0 0, .int .i64 0, .int .i64 0]) := X0.out.below hb1
  have U1 : Hid (BoxV w1 w.heap.size [.string sc, .string ho, .int .i64 po, .string pt]) := U0.out.below hb1
  have B1 : Hid (Below w.heap.size w w1) := B0.out.trans (hb1.mono B0.out.size)
  clear hb1 X0 U0 B0
  clear KR
  cases hfb : framesB L with
  | false =>
    have HQ : Hid (openF L pa sc ho pt po sb = ⟨[], 0, 1⟩) := by show _ = _; exact openF_form h4 (by rw [hfb]; rfl)
    go_wp2_with fail
    refine (KI.out 1 _).mono ?_
    rintro e w9 ⟨rfl, hb9⟩
    have X9 : Hid (BoxV w9 (w.heap.size + 1) [.slice none 0 0, .int .i64 0, .int .i64 0]) := X1.out.below hb9
    have B9 : Hid (Below w.heap.size w w9) := B1.out.trans (hb9.mono B1.out.size)
    clear hb9
    have x0 : w9.cell? ⟨(w.heap.size + 1), 0, none⟩ = some (.slice none 0 0) := X9.out.at (i := 0) rfl
    have xf0 : w9.frozen? ⟨(w.heap.size + 1), 0, none⟩ = false := X9.out.free (i := 0) rfl
    have x1 : w9.cell? ⟨(w.heap.size + 1), 1, none⟩ = some (.int .i64 0) := X9.out.at (i := 1) rfl
    have xf1 : w9.frozen? ⟨(w.heap.size + 1), 1, none⟩ = false := X9.out.free (i := 1) rfl
    have x2 : w9.cell? ⟨(w.heap.size + 1), 2, none⟩ = some (.int .i64 0) := X9.out.at (i := 2) rfl
    have xf2 : w9.frozen? ⟨(w.heap.size + 1), 2, none⟩ = false := X9.out.free (i := 2) rfl
    go_wp2
    exact bodyPost_ret (v := .agg #[.slice none 0 0, .int .i64 0, .int .i64 1]) (by simp [results, Tryd.results16, go_sem, x0, x1, x2]) rfl ⟨_, rfl, ⟨.slice none 0 0, by rw [HQ.out], by rw [HQ.out]; exact sliceF_none _ _⟩, (Below.setCell (Below.setCell (Below.setCell B9.out (Nat.le_succ _) _) (Nat.le_succ _) _) (Nat.le_succ _) _)⟩
  | true =>
  have u0 : w1.cell? ⟨w.heap.size, 0, none⟩ = some (.string sc) := U1.out.at (i := 0) rfl
  have u1 : w1.cell? ⟨w.heap.size, 1, none⟩ = some (.string ho) := U1.out.at (i := 1) rfl
  have u2 : w1.cell? ⟨w.heap.size, 2, none⟩ = some (.int .i64 po) := U1.out.at (i := 2) rfl
  have u3 : w1.cell? ⟨w.heap.size, 3, none⟩ = some (.string pt) := U1.out.at (i := 3) rfl
  go_wp2_with fail
  refine (KU.out _).mono ?_
  rintro e w2 ⟨rfl, hb2⟩
  have X2 : Hid (BoxV w2 (w.heap.size + 1) [.slice none 0 0, .int .i64 0, .int .i64 0]) := X1.out.below hb2
  have U2 : Hid (BoxV w2 w.heap.size [.string sc, .string ho, .int .i64 po, .string pt]) := U1.out.below hb2
  have B2 : Hid (Below w.heap.size w w2) := B1.out.trans (hb2.mono B1.out.size)
  clear hb2 X1 U1 B1
  clear KU u0 u1 u2 u3
  cases hub : urlB sc ho pt po with
  | false =>
    have HQ : Hid (openF L pa sc ho pt po sb = ⟨[], 0, 1⟩) := by show _ = _; exact openF_form h4 (by rw [hfb, hub]; rfl)
    go_wp2_with fail
    refine (KI.out 1 _).mono ?_
    rintro e w9 ⟨rfl, hb9⟩
    have X9 : Hid (BoxV w9 (w.heap.size + 1) [.slice none 0 0, .int .i64 0, .int .i64 0]) := X2.out.below hb9
    have B9 : Hid (Below w.heap.size w w9) := B2.out.trans (hb9.mono B2.out.size)
    clear hb9
    have x0 : w9.cell? ⟨(w.heap.size + 1), 0, none⟩ = some (.slice none 0 0) := X9.out.at (i := 0) rfl
    have xf0 : w9.frozen? ⟨(w.heap.size + 1), 0, none⟩ = false := X9.out.free (i := 0) rfl
    have x1 : w9.cell? ⟨(w.heap.size + 1), 1, none⟩ = some (.int .i64 0) := X9.out.at (i := 1) rfl
    have xf1 : w9.frozen? ⟨(w.heap.size + 1), 1, none⟩ = false := X9.out.free (i := 1) rfl
    have x2 : w9.cell? ⟨(w.heap.size + 1), 2, none⟩ = some (.int .i64 0) := X9.out.at (i := 2) rfl
    have xf2 : w9.frozen? ⟨(w.heap.size + 1), 2, none⟩ = false := X9.out.free (i := 2) rfl
    go_wp2
    exact bodyPost_ret (v := .agg #[.slice none 0 0, .int .i64 0, .int .i64 1]) (by simp [results, Tryd.results16, go_sem, x0, x1, x2]) rfl ⟨_, rfl, ⟨.slice none 0 0, by rw [HQ.out], by rw [HQ.out]; exact sliceF_none _ _⟩, (Below.setCell (Below.setCell (Below.setCell B9.out (Nat.le_succ _) _) (Nat.le_succ _) _) (Nat.le_succ _) _)⟩
  | true =>
  by_cases hp0 : pa = 0
  · have qp : (pa == 0) = true := by rw [beq_iff_eq]; exact hp0
    cases sb with
    | true =>
      have HQ : Hid (openF L pa sc ho pt po true = ⟨[], 0, 1⟩) := by show _ = _; exact openF_form h4 (by rw [hfb, hub, hp0]; rfl)
      clear hp0
      go_wp2_with fail
      refine (KI.out 1 _).mono ?_
      rintro e w9 ⟨rfl, hb9⟩
      have X9 : Hid (BoxV w9 (w.heap.size + 1) [.slice none 0 0, .int .i64 0, .int .i64 0]) := X2.out.below hb9
      have B9 : Hid (Below w.heap.size w w9) := B2.out.trans (hb9.mono B2.out.size)
      clear hb9
      have x0 : w9.cell? ⟨(w.heap.size + 1), 0, none⟩ = some (.slice none 0 0) := X9.out.at (i := 0) rfl
      have xf0 : w9.frozen? ⟨(w.heap.size + 1), 0, none⟩ = false := X9.out.free (i := 0) rfl
      have x1 : w9.cell? ⟨(w.heap.size + 1), 1, none⟩ = some (.int .i64 0) := X9.out.at (i := 1) rfl
      have xf1 : w9.frozen? ⟨(w.heap.size + 1), 1, none⟩ = false := X9.out.free (i := 1) rfl
      have x2 : w9.cell? ⟨(w.heap.size + 1), 2, none⟩ = some (.int .i64 0) := X9.out.at (i := 2) rfl
      have xf2 : w9.frozen? ⟨(w.heap.size + 1), 2, none⟩ = false := X9.out.free (i := 2) rfl
      go_wp2
      exact bodyPost_ret (v := .agg #[.slice none 0 0, .int .i64 0, .int .i64 1]) (by simp [results, Tryd.results16, go_sem, x0, x1, x2]) rfl ⟨_, rfl, ⟨.slice none 0 0, by rw [HQ.out], by rw [HQ.out]; exact sliceF_none _ _⟩, (Below.setCell (Below.setCell (Below.setCell B9.out (Nat.le_succ _) _) (Nat.le_succ _) _) (Nat.le_succ _) _)⟩
    | false =>
      have hbx : boxF pa false = true := by unfold boxF; simp
      clear hp0
      have hform : (framesB L && urlB sc ho pt po && boxF pa false) = true := by rw [hfb, hub, hbx]; rfl
      have KO1 : Hid (∀ W, Below w.heap.size w W → Calls Tryd.prog 49 #[.slice p L.length cap, .int .i64 pa, .agg #[.string sc, .string ho, .int .i64 po, .string pt], .bool false] W fun e w' => ∃ v', e = .returned v' ∧ AnsF w' W.heap.size v' (openF L pa sc ho pt po false) ∧ Below W.heap.size W w') := KO.out hform
      clear KO
      have u0 : w2.cell? ⟨w.heap.size, 0, none⟩ = some (.string sc) := U2.out.at (i := 0) rfl
      have u1 : w2.cell? ⟨w.heap.size, 1, none⟩ = some (.string ho) := U2.out.at (i := 1) rfl
      have u2 : w2.cell? ⟨w.heap.size, 2, none⟩ = some (.int .i64 po) := U2.out.at (i := 2) rfl
      have u3 : w2.cell? ⟨w.heap.size, 3, none⟩ = some (.string pt) := U2.out.at (i := 3) rfl
      generalize hZ : openF L pa sc ho pt po false = Z at *
      have HQ : Hid (openF L pa sc ho pt po false = Z) := hZ
      clear hZ
      go_wp2_with fail
      refine (KO1.out _ B2.out).mono ?_
      rintro e w4 ⟨v4, rfl, ⟨s4, rfl, ss4⟩, hb4⟩
      have S4 : Hid (SliceF w4 w2.heap.size s4 Z.ar) := ss4
      have X4 : Hid (BoxV w4 (w.heap.size + 1) [.slice none 0 0, .int .i64 0, .int .i64 0]) := X2.out.below hb4
      have B4 : Hid (Below w.heap.size w w4) := B2.out.trans (hb4.mono B2.out.size)
      have hlt4 : w.heap.size + 1 < w2.heap.size := X2.out.1
      obtain ⟨pq, cq, hv4⟩ : ∃ pq cq, s4 = .slice pq Z.ar.length cq := by obtain ⟨⟨p, c, e, -⟩, -⟩ := S4.out; exact ⟨p, c, e⟩
      clear hb4 ss4 KO1 u0 u1 u2 u3
      generalize hm : Z.ar.length = m at *
      subst hv4
      have x0 : w4.cell? ⟨(w.heap.size + 1), 0, none⟩ = some (.slice none 0 0) := X4.out.at (i := 0) rfl
      have xf0 : w4.frozen? ⟨(w.heap.size + 1), 0, none⟩ = false := X4.out.free (i := 0) rfl
      have x1 : w4.cell? ⟨(w.heap.size + 1), 1, none⟩ = some (.int .i64 0) := X4.out.at (i := 1) rfl
      have xf1 : w4.frozen? ⟨(w.heap.size + 1), 1, none⟩ = false := X4.out.free (i := 1) rfl
      have x2 : w4.cell? ⟨(w.heap.size + 1), 2, none⟩ = some (.int .i64 0) := X4.out.at (i := 2) rfl
      have xf2 : w4.frozen? ⟨(w.heap.size + 1), 2, none⟩ = false := X4.out.free (i := 2) rfl
      go_wp2
      refine bodyPost_ret (v := .agg #[.slice pq m cq, .int .i64 Z.id, .int .i64 Z.co]) (by simp [results, Tryd.results16, go_sem, x0, x1, x2]) rfl ⟨_, rfl, ⟨.slice pq m cq, by rw [HQ.out], by rw [HQ.out]; exact (S4.out.store3 hlt4).mono (by omega)⟩, (Below.setCell (Below.setCell (Below.setCell B4.out (Nat.le_succ _) _) (Nat.le_succ _) _) (Nat.le_succ _) _)⟩
  have qp : (pa == 0) = false := by rw [beq_eq_false_iff_ne]; exact hp0
  have hbx : boxF pa sb = true := by unfold boxF; rw [qp]; rfl
  have hform : (framesB L && urlB sc ho pt po && boxF pa sb) = true := by rw [hfb, hub, hbx]; rfl
  have KO1 : Hid (∀ W, Below w.heap.size w W → Calls Tryd.prog 49 #[.slice p L.length cap, .int .i64 pa, .agg #[.string sc, .string ho, .int .i64 po, .string pt], .bool sb] W fun e w' => ∃ v', e = .returned v' ∧ AnsF w' W.heap.size v' (openF L pa sc ho pt po sb) ∧ Below W.heap.size W w') := KO.out hform
  clear KO
  have u0 : w2.cell? ⟨w.heap.size, 0, none⟩ = some (.string sc) := U2.out.at (i := 0) rfl
  have u1 : w2.cell? ⟨w.heap.size, 1, none⟩ = some (.string ho) := U2.out.at (i := 1) rfl
  have u2 : w2.cell? ⟨w.heap.size, 2, none⟩ = some (.int .i64 po) := U2.out.at (i := 2) rfl
  have u3 : w2.cell? ⟨w.heap.size, 3, none⟩ = some (.string pt) := U2.out.at (i := 3) rfl
  generalize hZ : openF L pa sc ho pt po sb = Z at *
  have HQ : Hid (openF L pa sc ho pt po sb = Z) := hZ
  clear hZ
  go_wp2_with fail
  refine (KO1.out _ B2.out).mono ?_
  rintro e w4 ⟨v4, rfl, ⟨s4, rfl, ss4⟩, hb4⟩
  have S4 : Hid (SliceF w4 w2.heap.size s4 Z.ar) := ss4
  have X4 : Hid (BoxV w4 (w.heap.size + 1) [.slice none 0 0, .int .i64 0, .int .i64 0]) := X2.out.below hb4
  have B4 : Hid (Below w.heap.size w w4) := B2.out.trans (hb4.mono B2.out.size)
  have hlt4 : w.heap.size + 1 < w2.heap.size := X2.out.1
  obtain ⟨pq, cq, hv4⟩ : ∃ pq cq, s4 = .slice pq Z.ar.length cq := by obtain ⟨⟨p, c, e, -⟩, -⟩ := S4.out; exact ⟨p, c, e⟩
  clear hb4 ss4 KO1 u0 u1 u2 u3
  generalize hm : Z.ar.length = m at *
  subst hv4
  have x0 : w4.cell? ⟨(w.heap.size + 1), 0, none⟩ = some (.slice none 0 0) := X4.out.at (i := 0) rfl
  have xf0 : w4.frozen? ⟨(w.heap.size + 1), 0, none⟩ = false := X4.out.free (i := 0) rfl
  have x1 : w4.cell? ⟨(w.heap.size + 1), 1, none⟩ = some (.int .i64 0) := X4.out.at (i := 1) rfl
  have xf1 : w4.frozen? ⟨(w.heap.size + 1), 1, none⟩ = false := X4.out.free (i := 1) rfl
  have x2 : w4.cell? ⟨(w.heap.size + 1), 2, none⟩ = some (.int .i64 0) := X4.out.at (i := 2) rfl
  have xf2 : w4.frozen? ⟨(w.heap.size + 1), 2, none⟩ = false := X4.out.free (i := 2) rfl
  go_wp2
  refine bodyPost_ret (v := .agg #[.slice pq m cq, .int .i64 Z.id, .int .i64 Z.co]) (by simp [results, Tryd.results16, go_sem, x0, x1, x2]) rfl ⟨_, rfl, ⟨.slice pq m cq, by rw [HQ.out], by rw [HQ.out]; exact (S4.out.store3 hlt4).mono (by omega)⟩, (Below.setCell (Below.setCell (Below.setCell B4.out (Nat.le_succ _) _) (Nat.le_succ _) _) (Nat.le_succ _) _)⟩
end Go.Proofs.YtnpaekjiafaahaaDoor

/- The walk of together: two texts put together in new memory. -/
namespace Go.Proofs.YtnpaekjiafaahaaDoor
open Go.RowKit


set_option maxRecDepth 10000 in
set_option maxHeartbeats 400000 in
theorem together_full (x y : ByteArray) (w : World) (hz : x.size + y.size ≤ 1000000) (hy : ¬ y = ByteArray.empty) :
    Calls Tryd.prog 79 #[.string x, .string y] w fun e w' => e = .returned (.string (x ++ y)) ∧ Below w.heap.size w w' := by
  obtain ⟨w1, Z, hmk, HG1, hZ, hs1, hb1⟩ := make_row (P := Tryd.prog) w 100 5 _ Tryd.underlying100 infoU8 ((x.size : Int) + (y.size : Int)) (x.size + y.size) (by omega) (by omega)
  go_enter Tryd.func79, Tryd.ntmps79
  go_wp2_with fail
  obtain ⟨w2, hc2, HG2, hs2, hB2⟩ := copy_text (P := Tryd.prog) w1 100 9 3 5 Tryd.underlying100 sizeU8 (some ⟨w.heap.size, 0, none⟩) (x.size + y.size) (x.size + y.size) x (by omega) w.heap.size 0 Z _ HG1 (fun _ => rfl) (by omega)
  have hb2 := hB2 _ _ hb1 (Nat.le_refl _)
  rw [hc2]
  clear hc2 hmk hB2 HG1 hb1
  go_wp2_with fail
  have hl2 : (splice Z 0 (Lib.byteCells x.data.toList)).length = x.size + y.size := by rw [length_splice _ _ _ (by rw [len_cells]; omega), hZ]
  obtain ⟨w3, hc3, HG3, hs3, hB3⟩ := copy_text (P := Tryd.prog) w2 100 9 3 5 Tryd.underlying100 sizeU8 (some ⟨w.heap.size, x.size, none⟩) y.size y.size y (by omega) w.heap.size x.size _ _ HG2 (fun _ => rfl) (by omega)
  have hb3 := hB3 _ _ hb2 (Nat.le_refl _)
  have HG4 : RowAt w3 w.heap.size 5 (Lib.byteCells (x.data.toList ++ y.data.toList) ++ []) := by
    have e := splice_two Z (Lib.byteCells x.data.toList) (Lib.byteCells y.data.toList) (by rw [len_cells, len_cells]; exact hZ)
    rw [len_cells] at e
    rw [e, ← byteCells_append, ← List.append_nil (Lib.byteCells _)] at HG3
    exact HG3
  rw [hc3]
  clear hc3 hB3 HG2 HG3 hb2 hl2
  go_wp2_with fail
  rw [text_of_row (P := Tryd.prog) w3 100 9 5 Tryd.underlying100 Tryd.underlying5 Tryd.underlying9 w.heap.size (x.size + y.size) (x.size + y.size) 5 _ _ HG4 (by rw [List.length_append, ← Lib.size_eq, ← Lib.size_eq])]
  go_wp2
  go_ret
  exact ⟨ret_text (text_append x y), hb3⟩

set_option maxRecDepth 10000 in
set_option maxHeartbeats 400000 in
theorem together_empty (x : ByteArray) (w : World) (hz : x.size ≤ 1000000) :
    Calls Tryd.prog 79 #[.string x, .string ByteArray.empty] w fun e w' => e = .returned (.string x) ∧ Below w.heap.size w w' := by
  obtain ⟨w1, Z, hmk, HG1, hZ, hs1, hb1⟩ := make_row (P := Tryd.prog) w 100 5 _ Tryd.underlying100 infoU8 (x.size : Int) x.size (by omega) (by omega)
  go_enter Tryd.func79, Tryd.ntmps79
  go_wp2_with fail
  obtain ⟨w2, hc2, HG2, hs2, hB2⟩ := copy_text (P := Tryd.prog) w1 100 9 3 5 Tryd.underlying100 sizeU8 (some ⟨w.heap.size, 0, none⟩) x.size x.size x (by omega) w.heap.size 0 Z _ HG1 (fun _ => rfl) (by omega)
  have hb2 := hB2 _ _ hb1 (Nat.le_refl _)
  rw [hc2]
  clear hc2 hmk hB2 HG1 hb1
  go_wp2_with fail
  have HG4 : RowAt w2 w.heap.size 5 (Lib.byteCells x.data.toList ++ []) := by
    have e : splice Z 0 (Lib.byteCells x.data.toList) = Lib.byteCells x.data.toList ++ [] := by
      unfold splice
      rw [List.drop_eq_nil_of_le (by rw [len_cells]; omega)]
      simp
    rw [e] at HG2
    exact HG2
  rw [Lib.run_copy_empty_string (P := Tryd.prog) w2 100 9 3 5 (some ⟨w.heap.size, 0, none⟩) 0 0 ByteArray.empty Tryd.underlying100 (by rw [Option.isSome_iff_exists]; exact ⟨1, sizeU8⟩) rfl]
  go_wp2_with fail
  rw [text_of_row (P := Tryd.prog) w2 100 9 5 Tryd.underlying100 Tryd.underlying5 Tryd.underlying9 w.heap.size x.size x.size 5 _ _ HG4 (by rw [← Lib.size_eq])]
  go_wp2
  go_ret
  exact ⟨rfl, hb2⟩
theorem together_any (x y : ByteArray) (w : World) (hz : x.size + y.size ≤ 1000000) :
    Calls Tryd.prog 79 #[.string x, .string y] w fun e w' => e = .returned (.string (x ++ y)) ∧ Below w.heap.size w w' := by
  by_cases hy : y = ByteArray.empty
  · subst hy
    rw [ByteArray.append_empty]
    exact together_empty x w (by omega)
  · exact together_full x y w hz hy

end Go.Proofs.YtnpaekjiafaahaaDoor

/- The walks of the program's urlCopy and frameCopy, of the library's Index and Contains at int64, and of framesWithout. Written by implwithout9.py. -/
namespace Go.Proofs.YtnpaekjiafaahaaDoor
open Go.RowKit

def q80 : Oper := { dst := some 3, op := Op.fieldAddr 35 (Operand.tmp 1) 0, type := 0, pos := "l09_frame.go:84", after := #[], guard := none }
def q81 : Oper := { dst := some 4, op := Op.load 9 (Operand.tmp 3), type := 9, pos := "l09_frame.go:84", after := #[{ on := 0, ground := Ground.data }], guard := none }
def q82 : Oper := { dst := some 5, op := Op.call { callee := Callee.value (Operand.func 79), args := #[Operand.tmp 4, Operand.const (Value.string { data := #[] })], argTypes := #[9, 9] }, type := 9, pos := "l09_frame.go:84", after := #[{ on := 1, ground := Ground.data }], guard := none }
def q83 : Oper := { dst := some 6, op := Op.fieldAddr 35 (Operand.tmp 1) 1, type := 0, pos := "l09_frame.go:84", after := #[], guard := none }
def q84 : Oper := { dst := some 7, op := Op.load 9 (Operand.tmp 6), type := 9, pos := "l09_frame.go:84", after := #[{ on := 3, ground := Ground.data }], guard := none }
def q85 : Oper := { dst := some 8, op := Op.call { callee := Callee.value (Operand.func 79), args := #[Operand.tmp 7, Operand.const (Value.string { data := #[] })], argTypes := #[9, 9] }, type := 9, pos := "l09_frame.go:84", after := #[{ on := 4, ground := Ground.data }, { on := 2, ground := Ground.chain }], guard := none }
def q86 : Oper := { dst := some 9, op := Op.fieldAddr 35 (Operand.tmp 1) 2, type := 0, pos := "l09_frame.go:84", after := #[], guard := none }
def q87 : Oper := { dst := some 10, op := Op.load 2 (Operand.tmp 9), type := 2, pos := "l09_frame.go:84", after := #[{ on := 6, ground := Ground.data }], guard := none }
def q88 : Oper := { dst := some 11, op := Op.fieldAddr 35 (Operand.tmp 1) 3, type := 0, pos := "l09_frame.go:84", after := #[], guard := none }
def q89 : Oper := { dst := some 12, op := Op.load 9 (Operand.tmp 11), type := 9, pos := "l09_frame.go:84", after := #[{ on := 8, ground := Ground.data }], guard := none }
def q810 : Oper := { dst := some 13, op := Op.call { callee := Callee.value (Operand.func 79), args := #[Operand.tmp 12, Operand.const (Value.string { data := #[] })], argTypes := #[9, 9] }, type := 9, pos := "l09_frame.go:84", after := #[{ on := 9, ground := Ground.data }, { on := 5, ground := Ground.chain }], guard := none }
def q811 : Oper := { dst := some 14, op := Op.build 35 #[(0, Operand.tmp 5), (1, Operand.tmp 8), (2, Operand.tmp 10), (3, Operand.tmp 13)], type := 35, pos := "l09_frame.go:84", after := #[{ on := 2, ground := Ground.data }, { on := 5, ground := Ground.data }, { on := 7, ground := Ground.data }, { on := 10, ground := Ground.data }], guard := none }
def q812 : Oper := { dst := none, op := Op.store 35 (Operand.tmp 2) (Operand.tmp 14), type := 0, pos := "l09_frame.go:84", after := #[{ on := 11, ground := Ground.data }, { on := 10, ground := Ground.chain }, { on := 0, ground := Ground.phase }, { on := 1, ground := Ground.phase }, { on := 2, ground := Ground.phase }, { on := 3, ground := Ground.phase }, { on := 4, ground := Ground.phase }, { on := 5, ground := Ground.phase }, { on := 6, ground := Ground.phase }, { on := 7, ground := Ground.phase }, { on := 8, ground := Ground.phase }, { on := 9, ground := Ground.phase }, { on := 10, ground := Ground.phase }, { on := 11, ground := Ground.phase }], guard := none }
open List (setIfInBounds_toArray set_cons_zero set_cons_succ)
set_option maxRecDepth 10000 in
set_option maxHeartbeats 8000000 in
theorem urlCopy_any (sc ho pt : ByteArray) (po : Int) (w : World) (h0 : sc.size ≤ 1000000) (h1 : ho.size ≤ 1000000) (h2 : pt.size ≤ 1000000) :
    Calls Tryd.prog 52 #[.agg #[.string sc, .string ho, .int .i64 po, .string pt]] w fun e w' => e = .returned (.agg #[.string sc, .string ho, .int .i64 po, .string pt]) ∧ Below w.heap.size w w' := by
  have K0 : Hid (∀ W, Calls Tryd.prog 79 #[.string sc, .string ⟨#[]⟩] W fun e w' => e = .returned (.string sc) ∧ Below W.heap.size W w') := fun W => together_empty sc W (by omega)
  have K1 : Hid (∀ W, Calls Tryd.prog 79 #[.string ho, .string ⟨#[]⟩] W fun e w' => e = .returned (.string ho) ∧ Below W.heap.size W w') := fun W => together_empty ho W (by omega)
  have K2 : Hid (∀ W, Calls Tryd.prog 79 #[.string pt, .string ⟨#[]⟩] W fun e w' => e = .returned (.string pt) ∧ Below W.heap.size W w') := fun W => together_empty pt W (by omega)
  obtain ⟨W0, hW⟩ : ∃ W0, W0 = ((w.alloc (.cells #[.string sc, .string ho, .int .i64 po, .string pt] 35)).alloc (.cells #[.string ⟨#[]⟩, .string ⟨#[]⟩, .int .i64 0, .string ⟨#[]⟩] 35)) := ⟨_, rfl⟩
  have hW0 : Hid (W0 = ((w.alloc (.cells #[.string sc, .string ho, .int .i64 po, .string pt] 35)).alloc (.cells #[.string ⟨#[]⟩, .string ⟨#[]⟩, .int .i64 0, .string ⟨#[]⟩] 35))) := hW
  have HB : Hid (Below w.heap.size w W0) := by show Below _ _ _; rw [hW]; exact ((Below.refl _ _).alloc (Nat.le_refl _) _).alloc (by simp) _
  have z1 : w.heap.size + 1 < W0.heap.size := by rw [hW]; simp
  have c0 : W0.cell? ⟨w.heap.size, 0, none⟩ = some (.string sc) := by rw [hW]; simp
  have c1 : W0.cell? ⟨w.heap.size, 1, none⟩ = some (.string ho) := by rw [hW]; simp
  have c2 : W0.cell? ⟨w.heap.size, 2, none⟩ = some (.int .i64 po) := by rw [hW]; simp
  have c3 : W0.cell? ⟨w.heap.size, 3, none⟩ = some (.string pt) := by rw [hW]; simp
  have d0 : W0.cell? ⟨w.heap.size + 1, 0, none⟩ = some (.string ⟨#[]⟩) := by rw [hW]; exact (World.cell?_alloc_at _ _ _ _ (by simp)).trans rfl
  have d1 : W0.cell? ⟨w.heap.size + 1, 1, none⟩ = some (.string ⟨#[]⟩) := by rw [hW]; exact (World.cell?_alloc_at _ _ _ _ (by simp)).trans rfl
  have d2 : W0.cell? ⟨w.heap.size + 1, 2, none⟩ = some (.int .i64 0) := by rw [hW]; exact (World.cell?_alloc_at _ _ _ _ (by simp)).trans rfl
  have d3 : W0.cell? ⟨w.heap.size + 1, 3, none⟩ = some (.string ⟨#[]⟩) := by rw [hW]; exact (World.cell?_alloc_at _ _ _ _ (by simp)).trans rfl
  have fz : ∀ o, W0.frozen? ⟨w.heap.size + 1, o, none⟩ = false := by rw [hW]; exact fun o => World.frozen?_alloc_at _ _ _ _ (by simp)
  have f0 := fz 0
  have f1 := fz 1
  have f2 := fz 2
  have f3 := fz 3
  clear hW h0 h1 h2 fz
  go_enter Tryd.func52, Tryd.ntmps52
  go_upto_region 1 with fail
  rw [← hW0.out]
  clear hW0
  generalize hbb : w.heap.size = b at *
  have hb1 : b < W0.heap.size := by omega
  refine wp_region_held_drew (S := (fun w' => w'.cell? ⟨b, 0, none⟩ = some (.string sc) ∧ w'.cell? ⟨b, 1, none⟩ = some (.string ho) ∧ w'.cell? ⟨b, 2, none⟩ = some (.int .i64 po) ∧ w'.cell? ⟨b, 3, none⟩ = some (.string pt))) (by kernel_rfl) ?_ (fun hH0 => ?_)
  · (try dsimp only)
    go_keep
  refine takeY (i := 0) (oi := q80) (v := ?va00) rfl ?ha00 ?ra00
  case ha00 => (intro w hSw; (try dsimp only [q80] at hSw ⊢); go_simp; try with_reducible rfl)
  try simp only [q80, Act.put, setIfInBounds_toArray, set_cons_zero, set_cons_succ]
  refine takeY (i := 1) (oi := q81) (v := ?va01) rfl ?ha01 ?ra01
  case ha01 => (intro w hSw; (try dsimp only [q81] at hSw ⊢); go_simp; try with_reducible rfl)
  try simp only [q81, Act.put, setIfInBounds_toArray, set_cons_zero, set_cons_succ]
  refine takeY (i := 3) (oi := q83) (v := ?va03) rfl ?ha03 ?ra03
  case ha03 => (intro w hSw; (try dsimp only [q83] at hSw ⊢); go_simp; try with_reducible rfl)
  try simp only [q83, Act.put, setIfInBounds_toArray, set_cons_zero, set_cons_succ]
  refine takeY (i := 4) (oi := q84) (v := ?va04) rfl ?ha04 ?ra04
  case ha04 => (intro w hSw; (try dsimp only [q84] at hSw ⊢); go_simp; try with_reducible rfl)
  try simp only [q84, Act.put, setIfInBounds_toArray, set_cons_zero, set_cons_succ]
  refine takeY (i := 6) (oi := q86) (v := ?va06) rfl ?ha06 ?ra06
  case ha06 => (intro w hSw; (try dsimp only [q86] at hSw ⊢); go_simp; try with_reducible rfl)
  try simp only [q86, Act.put, setIfInBounds_toArray, set_cons_zero, set_cons_succ]
  refine takeY (i := 7) (oi := q87) (v := ?va07) rfl ?ha07 ?ra07
  case ha07 => (intro w hSw; (try dsimp only [q87] at hSw ⊢); go_simp; try with_reducible rfl)
  try simp only [q87, Act.put, setIfInBounds_toArray, set_cons_zero, set_cons_succ]
  refine takeY (i := 8) (oi := q88) (v := ?va08) rfl ?ha08 ?ra08
  case ha08 => (intro w hSw; (try dsimp only [q88] at hSw ⊢); go_simp; try with_reducible rfl)
  try simp only [q88, Act.put, setIfInBounds_toArray, set_cons_zero, set_cons_succ]
  refine takeY (i := 9) (oi := q89) (v := ?va09) rfl ?ha09 ?ra09
  case ha09 => (intro w hSw; (try dsimp only [q89] at hSw ⊢); go_simp; try with_reducible rfl)
  try simp only [q89, Act.put, setIfInBounds_toArray, set_cons_zero, set_cons_succ]
  refine wpAnyH_ready (rs := [2]) (by kernel_rfl) (by simp) ?_
  refine AllReadyH.cons (o := q82) rfl (fun K hK => ?_) AllReadyH.nil
  dsimp only [q82] at hK ⊢
  go_simp
  (go_at_call 79; refine (K0.out _).mono ?_; rintro e w1 ⟨rfl, hq1⟩; have A1 : Below W0.heap.size W0 w1 := (Below.drew (Below.refl _ _)).trans hq1; have x0 : w1.cell? ⟨b, 0, none⟩ = some (.string sc) := ((bcell A1).1 _ _ hb1).trans c0; have x1 : w1.cell? ⟨b, 1, none⟩ = some (.string ho) := ((bcell A1).1 _ _ hb1).trans c1; have x2 : w1.cell? ⟨b, 2, none⟩ = some (.int .i64 po) := ((bcell A1).1 _ _ hb1).trans c2; have x3 : w1.cell? ⟨b, 3, none⟩ = some (.string pt) := ((bcell A1).1 _ _ hb1).trans c3)
  try (go_wp2_with fail)
  refine hK.out _ _ ?_ (fun hH1 => ?_)
  · (try dsimp only)
    go_keep
  clear hK K hH0
  try simp only [q82, Act.put, setIfInBounds_toArray, set_cons_zero, set_cons_succ]
  refine wpAnyH_ready (rs := [5]) (by kernel_rfl) (by simp) ?_
  refine AllReadyH.cons (o := q85) rfl (fun K hK => ?_) AllReadyH.nil
  dsimp only [q85] at hK ⊢
  go_simp
  (go_at_call 79; refine (K1.out _).mono ?_; rintro e w2 ⟨rfl, hq2⟩; have A2 : Below W0.heap.size W0 w2 := A1.trans (hq2.mono A1.size); have y0 : w2.cell? ⟨b, 0, none⟩ = some (.string sc) := ((bcell A2).1 _ _ hb1).trans c0; have y1 : w2.cell? ⟨b, 1, none⟩ = some (.string ho) := ((bcell A2).1 _ _ hb1).trans c1; have y2 : w2.cell? ⟨b, 2, none⟩ = some (.int .i64 po) := ((bcell A2).1 _ _ hb1).trans c2; have y3 : w2.cell? ⟨b, 3, none⟩ = some (.string pt) := ((bcell A2).1 _ _ hb1).trans c3)
  try (go_wp2_with fail)
  refine hK.out _ _ ?_ (fun hH2 => ?_)
  · (try dsimp only)
    go_keep
  clear hK K hH1
  try simp only [q85, Act.put, setIfInBounds_toArray, set_cons_zero, set_cons_succ]
  refine wpAnyH_ready (rs := [10]) (by kernel_rfl) (by simp) ?_
  refine AllReadyH.cons (o := q810) rfl (fun K hK => ?_) AllReadyH.nil
  dsimp only [q810] at hK ⊢
  go_simp
  (go_at_call 79; refine (K2.out _).mono ?_; rintro e w3 ⟨rfl, hq3⟩; have A3 : Below W0.heap.size W0 w3 := A2.trans (hq3.mono A2.size); have v0 : w3.cell? ⟨b, 0, none⟩ = some (.string sc) := ((bcell A3).1 _ _ hb1).trans c0; have v1 : w3.cell? ⟨b, 1, none⟩ = some (.string ho) := ((bcell A3).1 _ _ hb1).trans c1; have v2 : w3.cell? ⟨b, 2, none⟩ = some (.int .i64 po) := ((bcell A3).1 _ _ hb1).trans c2; have v3 : w3.cell? ⟨b, 3, none⟩ = some (.string pt) := ((bcell A3).1 _ _ hb1).trans c3; have r0 : w3.cell? ⟨b + 1, 0, none⟩ = some (.string ⟨#[]⟩) := ((bcell A3).1 _ _ z1).trans d0; have s0 : w3.frozen? ⟨b + 1, 0, none⟩ = false := ((bcell A3).2 _ _ z1).trans f0; have r1 : w3.cell? ⟨b + 1, 1, none⟩ = some (.string ⟨#[]⟩) := ((bcell A3).1 _ _ z1).trans d1; have s1 : w3.frozen? ⟨b + 1, 1, none⟩ = false := ((bcell A3).2 _ _ z1).trans f1; have r2 : w3.cell? ⟨b + 1, 2, none⟩ = some (.int .i64 0) := ((bcell A3).1 _ _ z1).trans d2; have s2 : w3.frozen? ⟨b + 1, 2, none⟩ = false := ((bcell A3).2 _ _ z1).trans f2; have r3 : w3.cell? ⟨b + 1, 3, none⟩ = some (.string ⟨#[]⟩) := ((bcell A3).1 _ _ z1).trans d3; have s3 : w3.frozen? ⟨b + 1, 3, none⟩ = false := ((bcell A3).2 _ _ z1).trans f3)
  try (go_wp2_with fail)
  refine hK.out _ _ ?_ (fun hH3 => ?_)
  · (try dsimp only)
    go_keep
  clear hK K hH2
  try simp only [q810, Act.put, setIfInBounds_toArray, set_cons_zero, set_cons_succ]
  refine takeY (i := 11) (oi := q811) (v := ?va011) rfl ?ha011 ?ra011
  case ha011 => (intro w hSw; (try dsimp only [q811] at hSw ⊢); go_simp; try with_reducible rfl)
  try simp only [q811, Act.put, setIfInBounds_toArray, set_cons_zero, set_cons_succ]
  refine wpAnyH_ready (rs := [12]) (by kernel_rfl) (by simp) ?_
  refine AllReadyH.cons (o := q812) rfl (fun K hK => ?_) AllReadyH.nil
  dsimp only [q812] at hK ⊢
  go_simp
  (skip)
  try (go_wp2_with fail)
  refine hK.out _ _ ?_ (fun hH4 => ?_)
  · (try dsimp only)
    go_keep
  clear hK K hH3
  try simp only [q812, Act.put, setIfInBounds_toArray, set_cons_zero, set_cons_succ]
  refine wpAnyH_done (by kernel_rfl) ?_ _
  all_goals go_wp2
  all_goals
    refine bodyPost_ret (v := .agg #[.string sc, .string ho, .int .i64 po, .string pt]) (by simp [results, Tryd.results52, go_sem, r0, r1, r2, r3]) rfl ⟨rfl, ?_⟩
    have hB2 : Below b w w3 := HB.out.trans (A3.mono (by omega))
    rw [hbb]
    exact (Below.setCell (Below.setCell (Below.setCell (Below.setCell hB2 (Nat.le_succ _) _) (Nat.le_succ _) _) (Nat.le_succ _) _) (Nat.le_succ _) _)
set_option maxRecDepth 10000 in
set_option maxHeartbeats 8000000 in
theorem frameCopy_any (c : Fr) (w : World) (h0 : c.sc.size ≤ 1000000) (h1 : c.ho.size ≤ 1000000) (h2 : c.pt.size ≤ 1000000) :
    Calls Tryd.prog 81 #[frV c] w fun e w' => e = .returned (frV c) ∧ Below w.heap.size w w' := by
  have K : Hid (∀ W, Calls Tryd.prog 52 #[.agg #[.string c.sc, .string c.ho, .int .i64 c.po, .string c.pt]] W fun e w' => e = .returned (.agg #[.string c.sc, .string c.ho, .int .i64 c.po, .string c.pt]) ∧ Below W.heap.size W w') := fun W => urlCopy_any c.sc c.ho c.pt c.po W h0 h1 h2
  clear h0 h1 h2
  obtain ⟨id, pa, sc, ho, po, pt, sb, fl, tc⟩ := c
  unfold frV
  dsimp only at *
  have HX0 : Hid (BoxV (w.alloc (.cells #[.int .i64 id, .int .i64 pa, .string sc, .string ho, .int .i64 po, .string pt, .bool sb, .bool fl, .int .i64 tc] 60)) w.heap.size [.int .i64 id, .int .i64 pa, .string sc, .string ho, .int .i64 po, .string pt, .bool sb, .bool fl, .int .i64 tc]) := boxV_new w [.int .i64 id, .int .i64 pa, .string sc, .string ho, .int .i64 po, .string pt, .bool sb, .bool fl, .int .i64 tc] 60
  have HY0 : Hid (BoxV ((w.alloc (.cells #[.int .i64 id, .int .i64 pa, .string sc, .string ho, .int .i64 po, .string pt, .bool sb, .bool fl, .int .i64 tc] 60)).alloc (.cells #[.int .i64 0, .int .i64 0, .string ⟨#[]⟩, .string ⟨#[]⟩, .int .i64 0, .string ⟨#[]⟩, .bool false, .bool false, .int .i64 0] 60)) (w.heap.size + 1) [.int .i64 0, .int .i64 0, .string ⟨#[]⟩, .string ⟨#[]⟩, .int .i64 0, .string ⟨#[]⟩, .bool false, .bool false, .int .i64 0]) := by
    have h := boxV_new (w.alloc (.cells #[.int .i64 id, .int .i64 pa, .string sc, .string ho, .int .i64 po, .string pt, .bool sb, .bool fl, .int .i64 tc] 60)) [.int .i64 0, .int .i64 0, .string ⟨#[]⟩, .string ⟨#[]⟩, .int .i64 0, .string ⟨#[]⟩, .bool false, .bool false, .int .i64 0] 60
    rw [World.size_alloc] at h
    exact h
  have HB0 : Hid (Below w.heap.size w ((w.alloc (.cells #[.int .i64 id, .int .i64 pa, .string sc, .string ho, .int .i64 po, .string pt, .bool sb, .bool fl, .int .i64 tc] 60)).alloc (.cells #[.int .i64 0, .int .i64 0, .string ⟨#[]⟩, .string ⟨#[]⟩, .int .i64 0, .string ⟨#[]⟩, .bool false, .bool false, .int .i64 0] 60))) := ((Below.refl _ _).alloc (Nat.le_refl _) _).alloc (by simp) _
  go_enter Tryd.func81, Tryd.ntmps81
  go_wp2_with fail
  refine (K.out _).mono ?_
  rintro e w1 ⟨rfl, hb1⟩
  have HX1 : Hid (BoxV w1 w.heap.size [.int .i64 id, .int .i64 pa, .string sc, .string ho, .int .i64 po, .string pt, .bool sb, .bool fl, .int .i64 tc]) := (HX0.out.alloc _).below hb1
  have HY1 : Hid (BoxV w1 (w.heap.size + 1) [.int .i64 0, .int .i64 0, .string ⟨#[]⟩, .string ⟨#[]⟩, .int .i64 0, .string ⟨#[]⟩, .bool false, .bool false, .int .i64 0]) := HY0.out.below hb1
  have B1 : Hid (Below w.heap.size w w1) := HB0.out.trans (hb1.mono HB0.out.size)
  clear hb1 HX0 HY0 HB0 K
  generalize hbb : w.heap.size = b at *
  have x0 : w1.cell? ⟨b, 0, none⟩ = some (.int .i64 id) := HX1.out.at (i := 0) rfl
  have xf0 : w1.frozen? ⟨b, 0, none⟩ = false := HX1.out.free (i := 0) rfl
  have x1 : w1.cell? ⟨b, 1, none⟩ = some (.int .i64 pa) := HX1.out.at (i := 1) rfl
  have xf1 : w1.frozen? ⟨b, 1, none⟩ = false := HX1.out.free (i := 1) rfl
  have x2 : w1.cell? ⟨b, 2, none⟩ = some (.string sc) := HX1.out.at (i := 2) rfl
  have xf2 : w1.frozen? ⟨b, 2, none⟩ = false := HX1.out.free (i := 2) rfl
  have x3 : w1.cell? ⟨b, 3, none⟩ = some (.string ho) := HX1.out.at (i := 3) rfl
  have xf3 : w1.frozen? ⟨b, 3, none⟩ = false := HX1.out.free (i := 3) rfl
  have x4 : w1.cell? ⟨b, 4, none⟩ = some (.int .i64 po) := HX1.out.at (i := 4) rfl
  have xf4 : w1.frozen? ⟨b, 4, none⟩ = false := HX1.out.free (i := 4) rfl
  have x5 : w1.cell? ⟨b, 5, none⟩ = some (.string pt) := HX1.out.at (i := 5) rfl
  have xf5 : w1.frozen? ⟨b, 5, none⟩ = false := HX1.out.free (i := 5) rfl
  have x6 : w1.cell? ⟨b, 6, none⟩ = some (.bool sb) := HX1.out.at (i := 6) rfl
  have xf6 : w1.frozen? ⟨b, 6, none⟩ = false := HX1.out.free (i := 6) rfl
  have x7 : w1.cell? ⟨b, 7, none⟩ = some (.bool fl) := HX1.out.at (i := 7) rfl
  have xf7 : w1.frozen? ⟨b, 7, none⟩ = false := HX1.out.free (i := 7) rfl
  have x8 : w1.cell? ⟨b, 8, none⟩ = some (.int .i64 tc) := HX1.out.at (i := 8) rfl
  have xf8 : w1.frozen? ⟨b, 8, none⟩ = false := HX1.out.free (i := 8) rfl
  have y0 : w1.cell? ⟨b + 1, 0, none⟩ = some (.int .i64 0) := HY1.out.at (i := 0) rfl
  have yf0 : w1.frozen? ⟨b + 1, 0, none⟩ = false := HY1.out.free (i := 0) rfl
  have y1 : w1.cell? ⟨b + 1, 1, none⟩ = some (.int .i64 0) := HY1.out.at (i := 1) rfl
  have yf1 : w1.frozen? ⟨b + 1, 1, none⟩ = false := HY1.out.free (i := 1) rfl
  have y2 : w1.cell? ⟨b + 1, 2, none⟩ = some (.string ⟨#[]⟩) := HY1.out.at (i := 2) rfl
  have yf2 : w1.frozen? ⟨b + 1, 2, none⟩ = false := HY1.out.free (i := 2) rfl
  have y3 : w1.cell? ⟨b + 1, 3, none⟩ = some (.string ⟨#[]⟩) := HY1.out.at (i := 3) rfl
  have yf3 : w1.frozen? ⟨b + 1, 3, none⟩ = false := HY1.out.free (i := 3) rfl
  have y4 : w1.cell? ⟨b + 1, 4, none⟩ = some (.int .i64 0) := HY1.out.at (i := 4) rfl
  have yf4 : w1.frozen? ⟨b + 1, 4, none⟩ = false := HY1.out.free (i := 4) rfl
  have y5 : w1.cell? ⟨b + 1, 5, none⟩ = some (.string ⟨#[]⟩) := HY1.out.at (i := 5) rfl
  have yf5 : w1.frozen? ⟨b + 1, 5, none⟩ = false := HY1.out.free (i := 5) rfl
  have y6 : w1.cell? ⟨b + 1, 6, none⟩ = some (.bool false) := HY1.out.at (i := 6) rfl
  have yf6 : w1.frozen? ⟨b + 1, 6, none⟩ = false := HY1.out.free (i := 6) rfl
  have y7 : w1.cell? ⟨b + 1, 7, none⟩ = some (.bool false) := HY1.out.at (i := 7) rfl
  have yf7 : w1.frozen? ⟨b + 1, 7, none⟩ = false := HY1.out.free (i := 7) rfl
  have y8 : w1.cell? ⟨b + 1, 8, none⟩ = some (.int .i64 0) := HY1.out.at (i := 8) rfl
  have yf8 : w1.frozen? ⟨b + 1, 8, none⟩ = false := HY1.out.free (i := 8) rfl
  clear HX1 HY1
  go_wp2
  exact bodyPost_ret (v := .agg #[.int .i64 id, .int .i64 pa, .string sc, .string ho, .int .i64 po, .string pt, .bool sb, .bool fl, .int .i64 tc]) (by simp [results, Tryd.results81, go_sem, y0, y1, y2, y3, y4, y5, y6, y7, y8]) rfl ⟨rfl, by rw [hbb]; exact (Below.setCell (Below.setCell (Below.setCell (Below.setCell (Below.setCell (Below.setCell (Below.setCell (Below.setCell (Below.setCell (Below.setCell (Below.setCell (Below.setCell (Below.setCell B1.out (Nat.le_refl _) _) (Nat.le_refl _) _) (Nat.le_refl _) _) (Nat.le_refl _) _) (Nat.le_succ _) _) (Nat.le_succ _) _) (Nat.le_succ _) _) (Nat.le_succ _) _) (Nat.le_succ _) _) (Nat.le_succ _) _) (Nat.le_succ _) _) (Nat.le_succ _) _) (Nat.le_succ _) _)⟩
/-- a slice of numbers -/
def SliceN (w : World) (B : Nat) (v : Value) (I : List Int) : Prop := SliceR w B 1 v I.length (fun j _ => .int .i64 (I.getD j 0)) 
theorem SliceN.below {w w' : World} {B : Nat} {v : Value} {I : List Int} (h : SliceN w B v I) (hb : Below w.heap.size w w') : SliceN w' B v I := SliceR.below h hb
theorem sliceN_none (w : World) (B : Nat) : SliceN w B (.slice none 0 0) [] := sliceR_none _ _ _ _ _ _
set_option maxRecDepth 10000 in
set_option maxHeartbeats 4000000 in
theorem index9_any (v : Value) (I : List Int) (B : Nat) (x : Int) (w : World) (hs : SliceN w B v I) (hn : I.length ≤ 1048576) :
    Calls Tryd.prog 96 #[v, .int .i64 x] w fun e w' => (∃ r : Int, e = .returned (.int .i64 r) ∧ decide (0 ≤ r) = I.contains x) ∧ w' = w := by
  obtain ⟨p, cap, rfl, hg⟩ := hs
  have HG : Hid (0 < I.length → ∃ g, p = some ⟨g, 0, none⟩ ∧ ∀ j, j < I.length → w.cell? ⟨g, j, none⟩ = some (.int .i64 (I.getD j 0))) := fun h0 => by
    obtain ⟨g, e, -, -, hc⟩ := hg h0
    exact ⟨g, e, fun j hj => by have := (hc j hj 0 (by omega)).1; rw [Nat.mul_one] at this; exact this⟩
  have HY : Hid (∀ k, k < I.length → I.getD k 0 = x → I.contains x = true) := fun k hk e => by
    rw [List.contains_iff_mem]
    subst e
    rw [List.getD_eq_getElem?_getD, List.getElem?_eq_getElem hk]
    exact List.getElem_mem hk
  have HN : Hid ((∀ j, j < I.length → I.getD j 0 ≠ x) → I.contains x = false) := fun h => by
    rw [Bool.eq_false_iff]
    intro hc
    rw [List.contains_iff_mem] at hc
    obtain ⟨j, hj, e⟩ := List.mem_iff_getElem.1 hc
    refine h j hj ?_
    rw [List.getD_eq_getElem?_getD, List.getElem?_eq_getElem hj]
    exact e
  clear hg
  generalize I.contains x = R at *
  go_enter Tryd.func96, Tryd.ntmps96
  go_wp2
  go_loopw [8] (fun i wr => ∃ k : Nat, k ≤ I.length ∧ i = .int .i64 k ∧ Hid (∀ j, j < k → I.getD j 0 ≠ x) ∧ Hid (wr = w)) (fun i _ => I.length - (intOf i).toNat)
  case atStart => exact ⟨0, Nat.zero_le _, rfl, fun j hj => absurd hj (by omega), rfl⟩
  case round =>
    obtain ⟨k, hk, rfl, HR, HW⟩ := hrel
    by_cases hlt : k < I.length
    · obtain ⟨g, rfl, hc⟩ := HG.out (by omega)
      have c0 : wr.cell? ⟨g, k, none⟩ = some (.int .i64 (I.getD k 0)) := by rw [HW.out]; exact hc k hlt
      have k0 : (0 : Int) ≤ k := by omega
      have k1 : (k : Int) < I.length := by omega
      have HYk : Hid (I.getD k 0 = x → R = true) := HY.out k hlt
      have HNx : Hid (I.getD k 0 ≠ x → ∀ j, j < k + 1 → I.getD j 0 ≠ x) := fun h j hj => by
        by_cases e : j = k
        · subst e; exact h
        · exact HR.out j (by omega)
      clear hc HG HY HN HR
      generalize I.getD k 0 = y at *
      by_cases hx : y = x
      · have q1 : (x == y) = true := by rw [hx]; exact beq_self_eq_true _
        have HQ : Hid (R = true) := HYk.out hx
        go_wp2
        go_ret
        exact ⟨⟨_, rfl, by rw [HQ.out]; exact decide_eq_true (by omega)⟩, HW.out⟩
      · have q1 : (x == y) = false := by rw [beq_eq_false_iff_ne]; exact fun e => hx e.symm
        have HN2 := HNx.out hx
        have HN3 : Hid (∀ j, j < k + 1 → I.getD j 0 ≠ x) := HN2
        clear HN2 HNx HYk
        go_wp2
        go_roundw
        case rel => exact ⟨k + 1, by omega, by go_num, HN3, HW⟩
        case measure => simp [intOf]; omega
    · have HQ : Hid (R = false) := HN.out (fun j hj => HR.out j (by omega))
      go_wp2
      go_ret
      exact ⟨⟨_, rfl, by rw [HQ.out]; exact decide_eq_false (by omega)⟩, HW.out⟩
set_option maxRecDepth 10000 in
theorem contains9_any (v : Value) (I : List Int) (B : Nat) (x : Int) (w : World) (hs : SliceN w B v I) (hn : I.length ≤ 1048576) :
    Calls Tryd.prog 80 #[v, .int .i64 x] w fun e w' => e = .returned (.bool (I.contains x)) ∧ w' = w := by
  have KI : Hid (∀ W, W = w → Calls Tryd.prog 96 #[v, .int .i64 x] W fun e w' => (∃ r : Int, e = .returned (.int .i64 r) ∧ decide (0 ≤ r) = I.contains x) ∧ w' = W) := fun W e => by subst e; exact index9_any v I B x W hs hn
  generalize I.contains x = R at *
  go_enter Tryd.func80, Tryd.ntmps80
  go_wp2_with fail
  refine (KI.out _ rfl).mono ?_
  rintro e w1 ⟨⟨r, rfl, hr⟩, e1⟩
  have HQ : Hid (decide (0 ≤ r) = R) := hr
  have HW : Hid (w1 = w) := e1
  clear hr e1
  go_wp2
  go_ret
  exact ⟨ret_bool HQ.out, HW.out⟩
/-- those whose Id is not among the numbers -/
def withF (I : List Int) (L : List Fr) : List Fr := L.filter (fun f => !(I.contains f.id))
theorem withF_len (I : List Int) (L : List Fr) : (withF I L).length ≤ L.length := List.length_filter_le _ _
theorem withF_step {I : List Int} {L : List Fr} {k : Nat} (hk : k < L.length) : withF I (L.take (k + 1)) = if I.contains (atF L k).id = true then withF I (L.take k) else withF I (L.take k) ++ [atF L k] := by
  unfold withF
  rw [List.take_succ_eq_append_getElem hk, List.filter_append, ← atF_get hk]
  cases h : I.contains (atF L k).id with
  | true => rw [if_pos rfl, List.filter_cons_of_neg (by rw [h]; decide), List.filter_nil, List.append_nil]
  | false => rw [if_neg (by decide), List.filter_cons_of_pos (by rw [h]; decide), List.filter_nil]
set_option maxRecDepth 10000 in
set_option maxHeartbeats 8000000 in
theorem framesWithout_any (v sv : Value) (L : List Fr) (I : List Int) (B Bs : Nat) (w : World) (hs : SliceF w B v L) (hn : L.length ≤ 1000) (hi9 : SliceN w Bs sv I) (hin : I.length ≤ 1048576) (hz : ∀ i, i < L.length → (atF L i).sc.size ≤ 1000000 ∧ (atF L i).ho.size ≤ 1000000 ∧ (atF L i).pt.size ≤ 1000000) :
    Calls Tryd.prog 53 #[v, sv] w fun e w' => ∃ v', e = .returned v' ∧ w'.ownsRow w.heap.size 60 9 v' (withF I L).length (frCells (withF I L)) ∧ Below w.heap.size w w' := by
  have KC : Hid (∀ j, j < L.length → ∀ W, Calls Tryd.prog 81 #[frV (atF L j)] W fun e w' => e = .returned (frV (atF L j)) ∧ Below W.heap.size W w') := fun j hj W => frameCopy_any (atF L j) W (hz j hj).1 (hz j hj).2.1 (hz j hj).2.2
  have KI : Hid (∀ x W, Below w.heap.size w W → Calls Tryd.prog 80 #[sv, .int .i64 x] W fun e w' => e = .returned (.bool (I.contains x)) ∧ w' = W) := fun x W hb => contains9_any sv I Bs x W (hi9.below hb) hin
  have HST : Hid (∀ k, k < L.length → withF I (L.take (k + 1)) = if I.contains (atF L k).id = true then withF I (L.take k) else withF I (L.take k) ++ [atF L k]) := fun k hk => withF_step hk
  have HLE : Hid (∀ k, (withF I (L.take k)).length ≤ k) := fun k => Nat.le_trans (withF_len _ _) (by rw [List.length_take]; omega)
  have HSN : Hid (∀ (Y : List Fr) (c : Fr), frCells Y ++ frVals c = frCells (Y ++ [c])) := fun Y c => frCells_snoc Y c
  obtain ⟨i0, hi, hy0, hy1, hy2⟩ := info_parts infoFrame
  obtain ⟨⟨q, cap, rfl, hg⟩, -⟩ := hs
  have HG : Hid (0 < L.length → ∃ g, q = some ⟨g, 0, none⟩ ∧ g < w.heap.size ∧ ∀ j, j < L.length → ∀ o, o < 9 → w.cell? ⟨g, j * 9 + o, none⟩ = some (frC (atF L j) o)) := fun h0 => by
    obtain ⟨g, e, -, hgw, hc⟩ := hg h0
    exact ⟨g, e, hgw, fun j hj o ho => (hc j hj o ho).1⟩
  clear hg hz hi9
  go_enter Tryd.func53, Tryd.ntmps53
  go_wp2
  go_loopw [5, 10] (fun stv i wr => ∃ (k : Nat) (sl : Value), sl = stv ∧ k ≤ L.length ∧ i = .int .i64 k ∧ Hid (wr.ownsRow w.heap.size 60 9 sl (withF I (L.take k)).length (frCells (withF I (L.take k)))) ∧ Hid (Below w.heap.size w wr)) (fun _ i _ => L.length - (intOf i).toNat)
  case atStart => exact ⟨0, _, rfl, Nat.zero_le _, rfl, World.ownsRow_nil _ _ _ _, Below.refl _ _⟩
  case round =>
    obtain ⟨k, sl, rfl, hk, rfl, HO, HB⟩ := hrel
    have hws : w.heap.size ≤ wr.heap.size := HB.out.size
    by_cases hlt : k < L.length
    · obtain ⟨g, rfl, hgw, hc⟩ := HG.out (by omega)
      have k0 : (0 : Int) ≤ k := by omega
      have k1 : (k : Int) < L.length := by omega
      have KC0 := KC.out k hlt
      have KI0 : Hid (∀ W, Below w.heap.size w W → Calls Tryd.prog 80 #[sv, .int .i64 (atF L k).id] W fun e w' => e = .returned (.bool (I.contains (atF L k).id)) ∧ w' = W) := fun W hb => KI.out _ W hb
      have c0 : wr.cell? ⟨g, k * 9, none⟩ = some (.int .i64 (atF L k).id) := by rw [(bcell HB.out).1 _ _ hgw]; exact hc k hlt 0 (by omega)
      have c1 : wr.cell? ⟨g, k * 9 + 1, none⟩ = some (.int .i64 (atF L k).pa) := by rw [(bcell HB.out).1 _ _ hgw]; exact hc k hlt 1 (by omega)
      have c2 : wr.cell? ⟨g, k * 9 + 2, none⟩ = some (.string (atF L k).sc) := by rw [(bcell HB.out).1 _ _ hgw]; exact hc k hlt 2 (by omega)
      have c3 : wr.cell? ⟨g, k * 9 + 3, none⟩ = some (.string (atF L k).ho) := by rw [(bcell HB.out).1 _ _ hgw]; exact hc k hlt 3 (by omega)
      have c4 : wr.cell? ⟨g, k * 9 + 4, none⟩ = some (.int .i64 (atF L k).po) := by rw [(bcell HB.out).1 _ _ hgw]; exact hc k hlt 4 (by omega)
      have c5 : wr.cell? ⟨g, k * 9 + 5, none⟩ = some (.string (atF L k).pt) := by rw [(bcell HB.out).1 _ _ hgw]; exact hc k hlt 5 (by omega)
      have c6 : wr.cell? ⟨g, k * 9 + 6, none⟩ = some (.bool (atF L k).sb) := by rw [(bcell HB.out).1 _ _ hgw]; exact hc k hlt 6 (by omega)
      have c7 : wr.cell? ⟨g, k * 9 + 7, none⟩ = some (.bool (atF L k).fl) := by rw [(bcell HB.out).1 _ _ hgw]; exact hc k hlt 7 (by omega)
      have c8 : wr.cell? ⟨g, k * 9 + 8, none⟩ = some (.int .i64 (atF L k).tc) := by rw [(bcell HB.out).1 _ _ hgw]; exact hc k hlt 8 (by omega)
      have HYes : Hid (I.contains (atF L k).id = true → withF I (L.take (k + 1)) = withF I (L.take k)) := fun h => by rw [HST.out k hlt, if_pos h]
      have HNo : Hid (I.contains (atF L k).id = false → withF I (L.take (k + 1)) = withF I (L.take k) ++ [atF L k]) := fun h => by rw [HST.out k hlt, if_neg (by rw [h]; decide)]
      have hle := HLE.out k
      clear hc
      generalize hct : I.contains (atF L k).id = ct at *
      clear hct
      generalize atF L k = y at *
      generalize hY2 : withF I (L.take (k + 1)) = Y2 at *
      generalize withF I (L.take k) = Y at *
      generalize hm : Y.length = m at *
      have HM : Hid (Y.length = m) := hm
      clear hm
      obtain ⟨yid, ypa, ysc, yho, ypo, ypt, ysb, yfl, ytc⟩ := y
      unfold frV at KC0
      dsimp only at *
      have KC1 : Hid (∀ W, Calls Tryd.prog 81 #[.agg #[.int .i64 yid, .int .i64 ypa, .string ysc, .string yho, .int .i64 ypo, .string ypt, .bool ysb, .bool yfl, .int .i64 ytc]] W fun e w' => e = .returned (.agg #[.int .i64 yid, .int .i64 ypa, .string ysc, .string yho, .int .i64 ypo, .string ypt, .bool ysb, .bool yfl, .int .i64 ytc]) ∧ Below W.heap.size W w') := KC0
      clear KC0
      obtain ⟨W0, hW⟩ : ∃ W0, W0 = wr.alloc (.cells #[.int .i64 yid, .int .i64 ypa, .string ysc, .string yho, .int .i64 ypo, .string ypt, .bool ysb, .bool yfl, .int .i64 ytc] 60) := ⟨_, rfl⟩
      have hW0 : Hid (W0 = wr.alloc (.cells #[.int .i64 yid, .int .i64 ypa, .string ysc, .string yho, .int .i64 ypo, .string ypt, .bool ysb, .bool yfl, .int .i64 ytc] 60)) := hW
      have HBr : Hid (Below wr.heap.size wr W0) := by show Below _ _ _; rw [hW]; exact (Below.refl _ _).alloc (Nat.le_refl _) _
      have n0 : W0.cell? ⟨wr.heap.size, 0, none⟩ = some (.int .i64 yid) := by rw [hW]; simp
      have n1 : W0.cell? ⟨wr.heap.size, 1, none⟩ = some (.int .i64 ypa) := by rw [hW]; simp
      have n2 : W0.cell? ⟨wr.heap.size, 2, none⟩ = some (.string ysc) := by rw [hW]; simp
      have n3 : W0.cell? ⟨wr.heap.size, 3, none⟩ = some (.string yho) := by rw [hW]; simp
      have n4 : W0.cell? ⟨wr.heap.size, 4, none⟩ = some (.int .i64 ypo) := by rw [hW]; simp
      have n5 : W0.cell? ⟨wr.heap.size, 5, none⟩ = some (.string ypt) := by rw [hW]; simp
      have n6 : W0.cell? ⟨wr.heap.size, 6, none⟩ = some (.bool ysb) := by rw [hW]; simp
      have n7 : W0.cell? ⟨wr.heap.size, 7, none⟩ = some (.bool yfl) := by rw [hW]; simp
      have n8 : W0.cell? ⟨wr.heap.size, 8, none⟩ = some (.int .i64 ytc) := by rw [hW]; simp
      have hbW : wr.heap.size < W0.heap.size := by rw [hW]; simp
      clear hW
      go_upto_region 5 with fail
      rw [← hW0.out]
      clear hW0 c0 c1 c2 c3 c4 c5 c6 c7 c8
      generalize hbb : wr.heap.size = b at *
      go_wp2_with fail
      refine (KI0.out _ (HB.out.trans (by rw [← hbb] at HBr; exact HBr.out.mono HB.out.size))).mono ?_
      rintro e w2 ⟨rfl, e2⟩
      subst e2
      cases ct with
      | true =>
        have O5 : Hid (w2.ownsRow w.heap.size 60 9 sl Y2.length (frCells Y2)) := by
          show World.ownsRow _ _ _ _ _ _ _
          rw [HYes.out rfl, HM.out]
          exact ownR_below HO.out (by rw [hbb]; exact HBr.out)
        have B5 : Hid (Below w.heap.size w w2) := HB.out.trans (by rw [← hbb] at HBr; exact HBr.out.mono HB.out.size)
        clear HYes HNo KC1 KI0 n0 n1 n2 n3 n4 n5 n6 n7 n8 HO HB HBr
        go_wp2
        go_roundw
        case rel => exact ⟨k + 1, _, rfl, by omega, by go_num, by rw [hY2]; exact O5, B5⟩
        case measure => simp [intOf]; omega
      | false =>
        have HY2 : Hid (Y2 = Y ++ [⟨yid, ypa, ysc, yho, ypo, ypt, ysb, yfl, ytc⟩]) := HNo.out rfl
        clear HYes HNo KI0
        go_wp2_with fail
        refine (KC1.out _).mono ?_
        rintro e w3 ⟨rfl, hb3⟩
        have A3 : Below b wr w3 := HBr.out.trans (hb3.mono (Nat.le_of_lt hbW))
        have O4 : Hid (w3.ownsRow w.heap.size 60 9 _ m (frCells Y)) := ownR_below HO.out (by rw [hbb]; exact A3)
        have B3 : Hid (Below w.heap.size w w3) := HB.out.trans (by rw [← hbb] at A3; exact A3.mono HB.out.size)
        have hw3 : w.heap.size ≤ w3.heap.size := B3.out.size
        clear hb3 A3 HO HB HBr n0 n1 n2 n3 n4 n5 n6 n7 n8
        go_wp2_with (at_builtin; go_must (refine wpList_append_own _ rfl _ _ 25 rfl w.heap.size 60 i0 (.agg #[.int .i64 0, .int .i64 0, .string ⟨#[]⟩, .string ⟨#[]⟩, .int .i64 0, .string ⟨#[]⟩, .bool false, .bool false, .int .i64 0]) 9 88 Tryd.underlying25 hi hy0 hy1 hy2 rfl (by decide) _ _ _ rfl (O4.out.alloc _) ⟨w3.heap.size, 0, none⟩ 1 1 (frVals ⟨yid, ypa, ysc, yho, ypo, ypt, ysb, yfl, ytc⟩) rfl rfl (cell_Fr _ ⟨yid, ypa, ysc, yho, ypo, ypt, ysb, yfl, ytc⟩ _) (one_Fr ⟨yid, ypa, ysc, yho, ypo, ypt, ysb, yfl, ytc⟩) (by unfold maxLen; omega) (by omega) (by simp; omega) ?_))
        intro v1 w4 ho1 hg1 hn1
        have hb4 : Below w.heap.size w w4 := (B3.out.alloc B3.out.size _).grown hg1 (Nat.le_trans B3.out.size (by simp)) (fun j hj => own_base O4.out j hj)
        have O5 : Hid (w4.ownsRow w.heap.size 60 9 v1 Y2.length (frCells Y2)) := by
          show World.ownsRow _ _ _ _ _ _ _
          rw [HY2.out, ← HSN.out, List.length_append, HM.out]
          exact ho1
        have B4 : Hid (Below w.heap.size w w4) := hb4
        clear ho1 hg1 hn1 hb4
        go_wp2
        go_roundw
        case rel => exact ⟨k + 1, _, rfl, by omega, by go_num, by rw [hY2]; exact O5, B4⟩
        case measure => simp [intOf]; omega
    · obtain rfl : k = L.length := by omega
      have O5 : Hid (wr.ownsRow w.heap.size 60 9 sl (withF I L).length (frCells (withF I L))) := by
        have h := HO.out
        rw [List.take_length] at h
        exact h
      go_wp2
      go_ret
      exact ⟨_, rfl, O5.out, HB.out⟩
end Go.Proofs.YtnpaekjiafaahaaDoor
