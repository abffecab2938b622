/- Slices of grants; a slice of grants that came in; the laws' szGrantS, toGrantS and eqGrantS over it. Written by rowsin.py. -/
import Derived.Test.YtehnklgpdjfcgaaGrantT
import Derived.Test.YtehnklgpdjfcgaaStructGrant
import Derived.Test.YtehnklgpdjfcgaaOpenAgg3
import Derived.Test.YtehnklgpdjfcgaaSlicePair
import Derived.Test.YtehnklgpdjfcgaaCellsL
import Derived.Deep.Slices
namespace Go.Proofs.Ytehnklgpdjfcgaa
open Go.ChangeShapes Go.WideShapes Go.ChangeAt Go.RowKit Go.Joins Go.Deep

theorem gr_wf {n : Int} (h : (Lit.int .i64 n).wf = true) : -9223372036854775808 ≤ n ∧ n ≤ 9223372036854775807 := by
  simp [Lit.wf] at h
  have e1 : IntKind.i64.min = -9223372036854775808 := by decide
  have e2 : IntKind.i64.max = 9223372036854775807 := by decide
  omega
def atG (L : List Gr) (j : Nat) : Gr := L.getD j grNone
/-- the cells of grants -/
def grR (L : List Gr) (j o : Nat) : Value := grC (atG L j) o
/-- a slice of grants -/
def SliceG (w : World) (B : Nat) (v : Value) (L : List Gr) : Prop := SliceR w B 3 v L.length (grR L) ∧ ∃ p c, v = .slice p L.length c ∧ L.length ≤ c ∧ (p = none → c = 0)
theorem SliceG.below {w w' : World} {B : Nat} {v : Value} {L : List Gr} (h : SliceG w B v L) (hb : Below w.heap.size w w') : SliceG w' B v L := ⟨h.1.below hb, h.2⟩
theorem SliceG.mono {w : World} {B B' : Nat} {v : Value} {L : List Gr} (h : SliceG w B v L) (hB : B' ≤ B) : SliceG w B' v L := ⟨h.1.mono hB, h.2⟩
theorem trod_cellsGr {H : Type} {enc : TypeId × Value → H} {P : Program} {w : World} {base : Nat} {spare : Nat → Bool} {held : Bool} {t : TypeId} {f0 f1 f2 : Field} {fuel : Nat} {v0 v1 v2 : Value} {x : DataW H × List MemPlace} (ht : P.underlying t = some (.struct #[f0, f1, f2])) (hone : oneCellFields P #[f0, f1, f2] = true) (h : DataW.trod enc P w base spare held fuel t [v0, v1, v2] = some x) :
    ∃ (y0 y1 y2 : DataW H × List MemPlace) (n : Nat), DataW.trod enc P w base spare held n f0.type [v0] = some y0 ∧ DataW.trod enc P w base spare held n f1.type [v1] = some y1 ∧ DataW.trod enc P w base spare held n f2.type [v2] = some y2 := by
  obtain ⟨y0, y1, y2, n, h0, h1, h2⟩ := trod_struct3 ht h
  obtain ⟨o0, k0⟩ := hone_of hone 0 f0 rfl
  obtain ⟨o1, k1⟩ := hone_of hone 1 f1 rfl
  obtain ⟨o2, k2⟩ := hone_of hone 2 f2 rfl
  exact ⟨y0, y1, y2, n, by simpa [o0, k0] using h0, by simpa [o1, k1] using h1, by simpa [o2, k2] using h2⟩
/-- grants that a slice leads to -/
def GrRow (w : World) (a : Option Addr) (L : List Gr) : Prop := ∀ i, i < L.length → ∃ x, a = some x ∧ x.block < w.heap.size ∧ (∀ o, o < 3 → w.cell? (x.add (i * 3 + o)) = some (grC (atG L i) o)) ∧ (atG L i).tp.size ≤ maxLen ∧ (atG L i).si.size ≤ maxLen ∧ -9223372036854775808 ≤ (atG L i).un ∧ (atG L i).un ≤ 9223372036854775807
theorem GrRow.below {w w' : World} {a : Option Addr} {L : List Gr} (h : GrRow w a L) (hb : Below w.heap.size w w') : GrRow w' a L := by
  intro i hi
  obtain ⟨x, e, hx, hc, hs⟩ := h i hi
  exact ⟨x, e, Nat.lt_of_lt_of_le hx hb.size, fun o ho => by rw [hb.cell (p := x.add (i * 3 + o)) (by rw [addr_blk]; exact hx)]; exact hc o ho, hs⟩
theorem listGr {α : Type} {cs : List α} (h : cs.length = 3) : ∃ c0 c1 c2, cs = [c0, c1, c2] := by
  match cs, h with
  | [c0, c1, c2], _ => exact ⟨c0, c1, c2, rfl⟩
set_option maxRecDepth 10000 in
set_option maxHeartbeats 4000000 in
theorem grRow_of {H : Type} {enc : TypeId × Value → H} {W : World} {a : Option Addr} {len cap : Nat} {d : DataW H} {p : List MemPlace}
    (h : ∃ fuel, DataW.trod enc Try.prog W 0 (fun _ => true) true fuel 22 (Value.slice a len cap).cells.toList = some (d, p)) : (∃ L, L.length = len ∧ GrRow W a L) ∧ len ≤ maxLen := by
  obtain ⟨fuel, hf⟩ := h
  rcases Go.Deep.open_slice Try.underlying22 hf with ⟨hcs, _⟩ | ⟨x, l, c, m, n, D, Pl, hcs, _, hl, hm, hmm, _, hcell⟩
  · simp [Value.cells] at hcs
    obtain ⟨rfl, rfl, rfl⟩ := hcs
    exact ⟨⟨[], rfl, fun i hi => absurd hi (by simp)⟩, Nat.zero_le _⟩
  · simp [Value.cells] at hcs
    obtain ⟨rfl, rfl, rfl⟩ := hcs
    have hmc : m = cap := by simpa using hmm
    have ce : Try.prog.cellsOf 60 = 3 := by kernel_rfl
    have each : ∀ i, i < len → ∃ q : Gr, (∀ o, o < 3 → W.cell? (x.add (i * 3 + o)) = some (grC q o)) ∧ q.tp.size ≤ maxLen ∧ q.si.size ≤ maxLen ∧ -9223372036854775808 ≤ q.un ∧ q.un ≤ 9223372036854775807 := fun i hi => by
      obtain ⟨cs', h1, h2⟩ := hcell i (by omega)
      rw [ce] at h1
      obtain ⟨_, hlen, hc⟩ := World.cells?_some h1
      obtain ⟨v0, v1, v2, rfl⟩ := listGr hlen
      obtain ⟨y0, y1, y2, n', g0, g1, g2⟩ := trod_cellsGr Try.underlying60 (by kernel_rfl) h2
      obtain ⟨s0, e0, -, z0⟩ := DataW.trod_string Try.underlying9 g0
      obtain ⟨s1, e1, -, z1⟩ := DataW.trod_string Try.underlying9 g1
      obtain ⟨s2, e2, -, z2⟩ := DataW.trod_int Try.underlying2 g2
      simp only [List.cons.injEq, and_true] at e0 e1 e2
      subst e0 e1 e2
      refine ⟨⟨s0, s1, s2⟩, fun o ho => ?_, z0, z1, (gr_wf z2).1, (gr_wf z2).2⟩
      have hco := hc o ho
      rw [add_add] at hco
      rw [hco]
      match o, ho with
      | 0, _ => rfl
      | 1, _ => rfl
      | 2, _ => rfl
    obtain ⟨q, hq⟩ := @Go.Deep.choose_lt Gr ⟨grNone⟩ len _ each
    refine ⟨⟨(List.range len).map q, by simp, fun i hi => ?_⟩, by omega⟩
    have hi' : i < len := by simpa using hi
    have e : atG ((List.range len).map q) i = q i := by simp [atG, hi']
    rw [e]
    refine ⟨x, rfl, ?_, hq i hi'⟩
    have := World.block_lt_of_cell? W _ ((hq i hi').1 0 (by omega))
    rw [addr_blk] at this; exact this
set_option maxRecDepth 10000 in
set_option maxHeartbeats 4000000 in
theorem szGrantS_any (a : Option Addr) (cap : Nat) (L : List Gr) (l : Int) (w : World) (hr : GrRow w a L) (hn : L.length ≤ maxLen) (h0 : 0 ≤ l) (h1 : l ≤ 1048576) :
    Calls Try.prog 8 #[.slice a L.length cap, .int .i64 l] w fun e w' => (∃ r : Int, e = .returned (.int .i64 r) ∧ (r < 0 ∨ (0 ≤ r ∧ r ≤ 1048576 ∧ L.length ≤ 1048576 ∧ ∀ i, i < L.length → (atG L i).tp.size + (atG L i).si.size ≤ 1048576))) ∧ Below w.heap.size w w' := by
  unfold maxLen at hn
  by_cases hl : l < L.length
  · have q : decide (l - (L.length : Int) < 0) = true := by rw [decide_eq_true_iff]; omega
    go_enter Try.func8, Try.ntmps8
    go_wp2
    go_ret
    exact ⟨⟨_, rfl, .inl (by decide)⟩, Below.refl _ _⟩
  have q : decide (l - (L.length : Int) < 0) = false := by rw [decide_eq_false_iff_not]; omega
  have HR : Hid (GrRow w a L) := hr
  clear hr
  go_enter Try.func8, Try.ntmps8
  go_wp2
  go_loopw [1, 5] (fun v i wr => ∃ (k : Nat) (z : Int), k ≤ L.length ∧ v = .int .i64 z ∧ i = .int .i64 k ∧ 0 ≤ z ∧ z ≤ 1048576 ∧ Hid (∀ i, i < k → (atG L i).tp.size + (atG L i).si.size ≤ 1048576) ∧ Hid (Below w.heap.size w wr)) (fun _ i _ => L.length - (intOf i).toNat)
  case atStart => exact ⟨0, _, Nat.zero_le _, rfl, rfl, by omega, by omega, fun i hi => absurd hi (by omega), Below.refl _ _⟩
  case round =>
    obtain ⟨k, z, hk, rfl, rfl, z0, zl, HS, HB⟩ := hrel
    by_cases hlt : k < L.length
    · obtain ⟨x, rfl, hx, hc, hs0, hs1, -⟩ := HR.out.below HB.out k hlt
      have c0 : wr.cell? (x.add (k * 3)) = some (.string (atG L k).tp) := hc 0 (by omega)
      have c1 : wr.cell? ⟨(x.add (k * 3)).block, (x.add (k * 3)).off + 1, none⟩ = some (.string (atG L k).si) := by rw [show (.string (atG L k).si) = grC (atG L k) 1 from rfl, ← hc 1 (by omega), ← add_add]; rfl
      have c2 : wr.cell? ⟨(x.add (k * 3)).block, (x.add (k * 3)).off + 2, none⟩ = some (.int .i64 (atG L k).un) := by rw [show (.int .i64 (atG L k).un) = grC (atG L k) 2 from rfl, ← hc 2 (by omega), ← add_add]; rfl
      have KZ : Hid (∀ W, Calls Try.prog 37 #[.agg #[.string (atG L k).tp, .string (atG L k).si, .int .i64 (atG L k).un], .int .i64 z] W fun e w' => (∃ r : Int, e = .returned (.int .i64 r) ∧ (r < 0 ∨ (0 ≤ r ∧ r ≤ 1048576 ∧ (atG L k).tp.size + (atG L k).si.size ≤ 1048576))) ∧ Below W.heap.size W w') := fun W => szGrant_at (atG L k).tp (atG L k).si (atG L k).un z W hs0 hs1 z0 zl
      have k0 : (0 : Int) ≤ k := by omega
      have k1 : (k : Int) < L.length := by omega
      have HN : Hid ((atG L k).tp.size + (atG L k).si.size ≤ 1048576 → ∀ i, i < k + 1 → (atG L i).tp.size + (atG L i).si.size ≤ 1048576) := fun hs i hi => by
        by_cases e : i = k
        · subst e; exact hs
        · exact HS.out i (by omega)
      clear hc hs0 hs1
      generalize atG L k = y at *
      obtain ⟨tp, si, un⟩ := y
      dsimp only at *
      go_wp2_with fail
      refine (KZ.out _).mono ?_
      rintro e w1 ⟨⟨r, rfl, hr⟩, hb1⟩
      have B1 : Hid (Below w.heap.size w w1) := HB.out.trans (hb1.mono HB.out.size)
      clear hb1 c0 c1 c2
      rcases hr with hr | ⟨r0, r1, hsum⟩
      · have q2 : decide (r < 0) = true := by rw [decide_eq_true_iff]; exact hr
        go_wp2
        go_ret
        exact ⟨⟨_, rfl, .inl (by decide)⟩, B1.out⟩
      · have q2 : decide (r < 0) = false := by rw [decide_eq_false_iff_not]; omega
        have HN2 : Hid (∀ i, i < k + 1 → (atG L i).tp.size + (atG L i).si.size ≤ 1048576) := HN.out hsum
        clear hsum
        go_wp2
        go_roundw
        case rel => exact ⟨k + 1, r, by omega, rfl, by go_num, r0, r1, HN2, B1⟩
        case measure => simp [intOf]; omega
    · go_wp2
      go_ret
      exact ⟨⟨_, rfl, .inr ⟨z0, zl, by omega, fun i hi => HS.out i (by omega)⟩⟩, HB.out⟩
theorem infoGrant : (Try.prog.info? 62).map (fun i => (i.zero, i.size, i.bytes)) = some (some (.agg #[.string ⟨#[]⟩, .string ⟨#[]⟩, .int .i64 0]), 3, 40) := by kernel_rfl
/-- the first k as they are, the others empty -/
def uptoG (L : List Gr) (k j o : Nat) : Value := if j < k then grC (atG L j) o else grC grNone o
theorem make_Grants (w : World) (n : Nat) (hn : n ≤ 1048576) :
    ∃ w', Sem.run Try.prog (Instr.makeSlice 24 (.int .i64 (n : Int)) (.int .i64 (n : Int))) w = .ok (.slice (some ⟨w.heap.size, 0, none⟩) n n) w' ∧ SliceR w' w.heap.size 3 (.slice (some ⟨w.heap.size, 0, none⟩) n n) n (fun _ o => grC grNone o) ∧ w.heap.size < w'.heap.size ∧ Below w.heap.size w w' := by
  obtain ⟨i, h2, h3, h4, h5⟩ := info_parts infoGrant
  have hrun := run_make (P := Try.prog) w 24 62 i (.agg #[.string ⟨#[]⟩, .string ⟨#[]⟩, .int .i64 0]) Try.underlying24 h2 h3 .i64 .i64 n n (by omega) (Int.le_refl _) (by rw [h5]; omega) (by omega)
  simp only [Int.toNat_natCast, h4] at hrun
  refine ⟨_, hrun, ?_, by simp, (Below.refl _ _).alloc (Nat.le_refl _) _⟩
  refine ⟨_, _, rfl, fun _ => ⟨w.heap.size, rfl, Nat.le_refl _, by simp, fun j hj o ho => ⟨?_, by simp⟩⟩⟩
  rw [World.cell?_alloc_new]
  have hz : j * 3 + o < n * 3 := by omega
  have hm : (j * 3 + o) % 3 = o := by omega
  have e : (madeCells (Value.agg #[.string ⟨#[]⟩, .string ⟨#[]⟩, .int .i64 0]).cells (n * 3))[j * 3 + o]? = some (grC grNone o) := by
    rw [Array.getElem?_eq_some_iff]
    refine ⟨by rw [size_madeCells]; exact hz, ?_⟩
    unfold madeCells
    rw [Array.getElem_map, Array.getElem_range]
    show (#[.string ⟨#[]⟩, .string ⟨#[]⟩, .int .i64 0] : Array Value)[(j * 3 + o) % 3]! = _
    rw [hm]
    match o, ho with
    | 0, _ => rfl
    | 1, _ => rfl
    | 2, _ => rfl
  exact e
/-- ten cells written: one grant put at its place -/
theorem SliceR.putGr {w : World} {B n m g cap : Nat} {f : Nat → Nat → Value} (hs : SliceR w B 3 (.slice (some ⟨g, 0, none⟩) m cap) n f) (k : Nat) (hk : k < n) (c : Gr) :
    SliceR (((w.setCell ⟨g, k * 3 + 0, none⟩ (.string c.tp)).setCell ⟨g, k * 3 + 1, none⟩ (.string c.si)).setCell ⟨g, k * 3 + 2, none⟩ (.int .i64 c.un)) B 3 (.slice (some ⟨g, 0, none⟩) m cap) n (fun j o => if j = k then grC c o else f j o) := by
  refine SliceR.congr (SliceR.set (SliceR.set (SliceR.set (hs) k 0 hk (by omega) _) k 1 hk (by omega) _) k 2 hk (by omega) _) (fun j hj o ho => ?_)
  by_cases e : j = k
  · subst e
    match o, ho with
    | 0, _ => simp [updR, grC]
    | 1, _ => simp [updR, grC]
    | 2, _ => simp [updR, grC]
  · simp [updR, e]
set_option maxRecDepth 10000 in
set_option maxHeartbeats 4000000 in
theorem toGrantS_any (a : Option Addr) (cap : Nat) (L : List Gr) (w : World) (hr : GrRow w a L) (hn : L.length ≤ 1048576) :
    Calls Try.prog 10 #[.slice a L.length cap] w fun e w' => ∃ v, e = .returned v ∧ SliceG w' w.heap.size v L ∧ Below w.heap.size w w' := by
  have HR : Hid (GrRow w a L) := hr
  clear hr
  obtain ⟨w1, hmk, hs1, hz1, hb1⟩ := make_Grants w L.length hn
  have HS1 : Hid (SliceR w1 w.heap.size 3 (.slice (some ⟨w.heap.size, 0, none⟩) L.length L.length) L.length (uptoG L 0)) := SliceR.congr hs1 (fun j _ o _ => by unfold uptoG; rw [if_neg (by omega)])
  have HB1 : Hid (Below w.heap.size w w1) := hb1
  clear hs1 hb1
  go_enter Try.func10, Try.ntmps10
  go_wp2
  clear hmk
  go_loopw [4] (fun i wr => ∃ k : Nat, k ≤ L.length ∧ i = .int .i64 k ∧ Hid (SliceR wr w.heap.size 3 (.slice (some ⟨w.heap.size, 0, none⟩) L.length L.length) L.length (uptoG L k)) ∧ Hid (Below w.heap.size w wr)) (fun i _ => L.length - (intOf i).toNat)
  case atStart => exact ⟨0, Nat.zero_le _, rfl, HS1, HB1⟩
  case round =>
    obtain ⟨k, hk, rfl, HS, HB⟩ := hrel
    by_cases hlt : k < L.length
    · obtain ⟨x, rfl, hx, hc, -⟩ := HR.out.below HB.out k hlt
      have c0 : wr.cell? (x.add (k * 3)) = some (.string (atG L k).tp) := hc 0 (by omega)
      have c1 : wr.cell? ⟨(x.add (k * 3)).block, (x.add (k * 3)).off + 1, none⟩ = some (.string (atG L k).si) := by rw [show (.string (atG L k).si) = grC (atG L k) 1 from rfl, ← hc 1 (by omega), ← add_add]; rfl
      have c2 : wr.cell? ⟨(x.add (k * 3)).block, (x.add (k * 3)).off + 2, none⟩ = some (.int .i64 (atG L k).un) := by rw [show (.int .i64 (atG L k).un) = grC (atG L k) 2 from rfl, ← hc 2 (by omega), ← add_add]; rfl
      have KT : Hid (∀ W, Calls Try.prog 40 #[.agg #[.string (atG L k).tp, .string (atG L k).si, .int .i64 (atG L k).un]] W fun e w' => e = .returned (.agg #[.string (atG L k).tp, .string (atG L k).si, .int .i64 (atG L k).un]) ∧ Below W.heap.size W w') := fun W => toGrant_any _ _ _ W
      have HP : Hid (∀ w2 f, SliceR w2 w.heap.size 3 (.slice (some ⟨w.heap.size, 0, none⟩) L.length L.length) L.length f → SliceR (((w2.setCell ⟨w.heap.size, k * 3 + 0, none⟩ (.string (atG L k).tp)).setCell ⟨w.heap.size, k * 3 + 1, none⟩ (.string (atG L k).si)).setCell ⟨w.heap.size, k * 3 + 2, none⟩ (.int .i64 (atG L k).un)) w.heap.size 3 (.slice (some ⟨w.heap.size, 0, none⟩) L.length L.length) L.length (fun j o => if j = k then grC (atG L k) o else f j o)) := fun w2 f hh => SliceR.putGr hh k hlt (atG L k)
      have HU : Hid (∀ j o, (if j = k then grC (atG L k) o else uptoG L k j o) = uptoG L (k + 1) j o) := fun j o => by
        unfold uptoG
        by_cases e : j = k
        · subst e; rw [if_pos rfl, if_pos (by omega)]
        · rw [if_neg e]
          by_cases h : j < k
          · rw [if_pos h, if_pos (by omega)]
          · rw [if_neg h, if_neg (by omega)]
      have k0 : (0 : Int) ≤ k := by omega
      have k1 : (k : Int) < L.length := by omega
      clear hc
      generalize atG L k = y at *
      obtain ⟨tp, si, un⟩ := y
      dsimp only at *
      go_wp2_with fail
      refine (KT.out _).mono ?_
      rintro e w2 ⟨rfl, hb2⟩
      have S2 : Hid (SliceR w2 w.heap.size 3 (.slice (some ⟨w.heap.size, 0, none⟩) L.length L.length) L.length (uptoG L k)) := SliceR.below HS.out hb2
      have B2 : Hid (Below w.heap.size w w2) := HB.out.trans (hb2.mono HB.out.size)
      clear hb2 hx c0 c1 c2
      obtain ⟨d0, f0, d1, f1, d2, f2⟩ : w2.cell? ⟨w.heap.size, k * 3, none⟩ = some (uptoG L k k 0) ∧ w2.frozen? ⟨w.heap.size, k * 3, none⟩ = false ∧ w2.cell? ⟨w.heap.size, k * 3 + 1, none⟩ = some (uptoG L k k 1) ∧ w2.frozen? ⟨w.heap.size, k * 3 + 1, none⟩ = false ∧ w2.cell? ⟨w.heap.size, k * 3 + 2, none⟩ = some (uptoG L k k 2) ∧ w2.frozen? ⟨w.heap.size, k * 3 + 2, none⟩ = false := by
        obtain ⟨p, c, e, hh⟩ := S2.out
        injection e with e1
        obtain ⟨g, e2, -, -, hc⟩ := hh (by omega)
        rw [e2] at e1
        injection e1 with e1
        injection e1 with e1
        subst e1
        exact ⟨(hc k hlt 0 (by omega)).1, (hc k hlt 0 (by omega)).2, (hc k hlt 1 (by omega)).1, (hc k hlt 1 (by omega)).2, (hc k hlt 2 (by omega)).1, (hc k hlt 2 (by omega)).2⟩
      generalize uptoG L k k 0 = z0 at *
      generalize uptoG L k k 1 = z1 at *
      generalize uptoG L k k 2 = z2 at *
      have HN : Hid (SliceR (((w2.setCell ⟨w.heap.size, k * 3 + 0, none⟩ (.string tp)).setCell ⟨w.heap.size, k * 3 + 1, none⟩ (.string si)).setCell ⟨w.heap.size, k * 3 + 2, none⟩ (.int .i64 un)) w.heap.size 3 (.slice (some ⟨w.heap.size, 0, none⟩) L.length L.length) L.length (uptoG L (k + 1))) := SliceR.congr (HP.out w2 _ S2.out) (fun j hj o ho => HU.out j o)
      go_wp2
      go_roundw
      case rel => exact ⟨k + 1, by omega, by go_num, HN, ((B2.out.setCell (Nat.le_refl _) _).setCell (Nat.le_refl _) _).setCell (Nat.le_refl _) _⟩
      case measure => simp [intOf]; omega
    · go_wp2
      go_ret
      refine ⟨_, rfl, ⟨?_, _, _, rfl, Nat.le_refl _, fun h => by cases h⟩, HB.out⟩
      exact SliceR.congr HS.out (fun j hj o ho => by unfold uptoG grR; rw [if_pos (by omega)])
set_option maxRecDepth 10000 in
set_option maxHeartbeats 8000000 in
theorem eqGrantS_any (a b : Value) (L : List Gr) (B B' : Nat) (w : World) (ha : SliceG w B a L) (hb : SliceG w B' b L) (hn : L.length ≤ 1048576) :
    Calls Try.prog 12 #[a, b] w fun e w' => e = .returned (.bool true) ∧ Below w.heap.size w w' := by
  obtain ⟨⟨p, cap, rfl, h1⟩, -⟩ := ha
  obtain ⟨⟨p', cap', rfl, h2⟩, -⟩ := hb
  have H1 : Hid (0 < L.length → ∃ g, p = some ⟨g, 0, none⟩ ∧ B ≤ g ∧ g < w.heap.size ∧ ∀ j, j < L.length → ∀ o, o < 3 → w.cell? ⟨g, j * 3 + o, none⟩ = some (grR L j o) ∧ w.frozen? ⟨g, j * 3 + o, none⟩ = false) := h1
  have H2 : Hid (0 < L.length → ∃ g, p' = some ⟨g, 0, none⟩ ∧ B' ≤ g ∧ g < w.heap.size ∧ ∀ j, j < L.length → ∀ o, o < 3 → w.cell? ⟨g, j * 3 + o, none⟩ = some (grR L j o) ∧ w.frozen? ⟨g, j * 3 + o, none⟩ = false) := h2
  clear h1 h2
  go_enter Try.func12, Try.ntmps12
  go_wp2
  go_loopw [5] (fun i wr => ∃ k : Nat, k ≤ L.length ∧ i = .int .i64 k ∧ Hid (Below w.heap.size w wr)) (fun i _ => L.length - (intOf i).toNat)
  case atStart => exact ⟨0, by omega, rfl, Below.refl _ _⟩
  case round =>
    obtain ⟨k, hk, rfl, HB⟩ := hrel
    by_cases hlt : k < L.length
    · obtain ⟨g, rfl, -, hg, hc⟩ := H1.out (by omega)
      obtain ⟨g', rfl, -, hg', hc'⟩ := H2.out (by omega)
      have hgr : g < wr.heap.size := Nat.lt_of_lt_of_le hg HB.out.size
      have hgr' : g' < wr.heap.size := Nat.lt_of_lt_of_le hg' HB.out.size
      have hx : ∀ o, o < 3 → wr.cell? ⟨g, k * 3 + o, none⟩ = some (grC (atG L k) o) := fun o ho => by rw [(bcell HB.out).1 _ _ hg]; exact (hc k hlt o ho).1
      have hx' : ∀ o, o < 3 → wr.cell? ⟨g', k * 3 + o, none⟩ = some (grC (atG L k) o) := fun o ho => by rw [(bcell HB.out).1 _ _ hg']; exact (hc' k hlt o ho).1
      have c0 : wr.cell? ⟨g, k * 3, none⟩ = some (.string (atG L k).tp) := hx 0 (by omega)
      have d0 : wr.cell? ⟨g', k * 3, none⟩ = some (.string (atG L k).tp) := hx' 0 (by omega)
      have c1 : wr.cell? ⟨g, k * 3 + 1, none⟩ = some (.string (atG L k).si) := hx 1 (by omega)
      have d1 : wr.cell? ⟨g', k * 3 + 1, none⟩ = some (.string (atG L k).si) := hx' 1 (by omega)
      have c2 : wr.cell? ⟨g, k * 3 + 2, none⟩ = some (.int .i64 (atG L k).un) := hx 2 (by omega)
      have d2 : wr.cell? ⟨g', k * 3 + 2, none⟩ = some (.int .i64 (atG L k).un) := hx' 2 (by omega)
      have k0 : (0 : Int) ≤ k := by omega
      have k1 : (k : Int) < L.length := by omega
      clear hc hc' hx hx'
      have KE : Hid (∀ W, Calls Try.prog 46 #[.agg #[.string (atG L k).tp, .string (atG L k).si, .int .i64 (atG L k).un], .agg #[.string (atG L k).tp, .string (atG L k).si, .int .i64 (atG L k).un]] W fun e w' => e = .returned (.bool true) ∧ Below W.heap.size W w') := fun W => eqGrant_any (atG L k).tp (atG L k).si (atG L k).un W
      generalize atG L k = y at *
      obtain ⟨tp, si, un⟩ := y
      dsimp only at *
      go_wp2_with fail
      go_region_held3 (fun w' => w'.cell? ⟨g, k * 3, none⟩ = some (.string tp) ∧ w'.cell? ⟨g, k * 3 + 1, none⟩ = some (.string si) ∧ w'.cell? ⟨g, k * 3 + 2, none⟩ = some (.int .i64 un) ∧ w'.cell? ⟨g', k * 3, none⟩ = some (.string tp) ∧ w'.cell? ⟨g', k * 3 + 1, none⟩ = some (.string si) ∧ w'.cell? ⟨g', k * 3 + 2, none⟩ = some (.int .i64 un)) (go_keep)
        (first | (go_at_call 46; refine (KE.out _).mono ?_; rintro e w2 ⟨rfl, hb2⟩; have A2 : Below wr.heap.size wr w2 := (Below.drew (Below.refl _ _)).trans hb2; have l0 : w2.cell? ⟨g, k * 3, none⟩ = some (.string tp) := ((bcell A2).1 _ _ hgr).trans c0; have m0 : w2.cell? ⟨g', k * 3, none⟩ = some (.string tp) := ((bcell A2).1 _ _ hgr').trans d0; have l1 : w2.cell? ⟨g, k * 3 + 1, none⟩ = some (.string si) := ((bcell A2).1 _ _ hgr).trans c1; have m1 : w2.cell? ⟨g', k * 3 + 1, none⟩ = some (.string si) := ((bcell A2).1 _ _ hgr').trans d1; have l2 : w2.cell? ⟨g, k * 3 + 2, none⟩ = some (.int .i64 un) := ((bcell A2).1 _ _ hgr).trans c2; have m2 : w2.cell? ⟨g', k * 3 + 2, none⟩ = some (.int .i64 un) := ((bcell A2).1 _ _ hgr').trans d2))
      all_goals go_wp2
      all_goals go_roundw
      case rel => exact ⟨k + 1, by omega, by go_num, HB.out.trans (A2.mono HB.out.size)⟩
      case measure => simp [intOf]; omega
    · go_wp2
      go_ret
      exact ⟨rfl, HB.out⟩
end Go.Proofs.Ytehnklgpdjfcgaa
