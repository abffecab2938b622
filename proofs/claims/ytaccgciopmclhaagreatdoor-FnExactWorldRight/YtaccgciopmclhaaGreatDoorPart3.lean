/- 15 of this claim's texts, one behind the other. -/
import Derived.Lib.SmallJoins
import Derived.Test.YtaccgciopmclhaaGreatDoorPart1
import Derived.Deep.RegionHeld3
import Derived.Test.YtaccgciopmclhaaGreatDoorPart2
import Derived.Deep.Slices
import Derived.Laws.ResultCell
import Derived.WalkKit
import Derived.WalkSpells
import Derived.WalkLawsBesides
/- A struct of 10 one-cell fields, by value, opened. -/
namespace Go.Proofs.YtaccgciopmclhaaGreatDoor
open Go.ChangeShapes Go.WideShapes Go.ChangeAt Go.RowKit Go.Joins Go.Deep

theorem array10 {α : Type} {cs : Array α} (h : cs.size = 10) : ∃ c0 c1 c2 c3 c4 c5 c6 c7 c8 c9, cs = #[c0, c1, c2, c3, c4, c5, c6, c7, c8, c9] := by
  obtain ⟨l⟩ := cs
  match l, h with
  | [c0, c1, c2, c3, c4, c5, c6, c7, c8, c9], _ => exact ⟨c0, c1, c2, c3, c4, c5, c6, c7, c8, c9, rfl⟩
theorem trod_struct10 {H : Type} {enc : TypeId × Value → H} {P : Program} {w : World} {base : Nat} {spare : Nat → Bool} {held : Bool} {t : TypeId} {f0 f1 f2 f3 f4 f5 f6 f7 f8 f9 : Field} {fuel : Nat} {cs : List Value} {x : DataW H × List MemPlace} (ht : P.underlying t = some (.struct #[f0, f1, f2, f3, f4, f5, f6, f7, f8, f9])) (h : DataW.trod enc P w base spare held fuel t cs = some x) :
    ∃ (y0 y1 y2 y3 y4 y5 y6 y7 y8 y9 : DataW H × List MemPlace) (n : Nat), DataW.trod enc P w base spare held n f0.type ((cs.drop f0.offset).take (P.cellsOf f0.type)) = some y0 ∧ DataW.trod enc P w base spare held n f1.type ((cs.drop f1.offset).take (P.cellsOf f1.type)) = some y1 ∧ DataW.trod enc P w base spare held n f2.type ((cs.drop f2.offset).take (P.cellsOf f2.type)) = some y2 ∧ DataW.trod enc P w base spare held n f3.type ((cs.drop f3.offset).take (P.cellsOf f3.type)) = some y3 ∧ DataW.trod enc P w base spare held n f4.type ((cs.drop f4.offset).take (P.cellsOf f4.type)) = some y4 ∧ DataW.trod enc P w base spare held n f5.type ((cs.drop f5.offset).take (P.cellsOf f5.type)) = some y5 ∧ DataW.trod enc P w base spare held n f6.type ((cs.drop f6.offset).take (P.cellsOf f6.type)) = some y6 ∧ DataW.trod enc P w base spare held n f7.type ((cs.drop f7.offset).take (P.cellsOf f7.type)) = some y7 ∧ DataW.trod enc P w base spare held n f8.type ((cs.drop f8.offset).take (P.cellsOf f8.type)) = some y8 ∧ DataW.trod enc P w base spare held n f9.type ((cs.drop f9.offset).take (P.cellsOf f9.type)) = some y9 := by
  obtain ⟨xs, n, _, rfl, hl, hlen, hf⟩ := DataW.trod_struct ht h
  match xs, hlen with
  | [y0, y1, y2, y3, y4, y5, y6, y7, y8, y9], _ => exact ⟨y0, y1, y2, y3, y4, y5, y6, y7, y8, y9, n, by simpa using hf 0 f0 rfl, by simpa using hf 1 f1 rfl, by simpa using hf 2 f2 rfl, by simpa using hf 3 f3 rfl, by simpa using hf 4 f4 rfl, by simpa using hf 5 f5 rfl, by simpa using hf 6 f6 rfl, by simpa using hf 7 f7 rfl, by simpa using hf 8 f8 rfl, by simpa using hf 9 f9 rfl⟩
theorem open_agg10 {H : Type} {enc : TypeId × Value → H} {P : Program} {w : World} {base : Nat} {spare : Nat → Bool} {held : Bool} {r : Reach} {b0 : Nat} {t : TypeId} {f0 f1 f2 f3 f4 f5 f6 f7 f8 f9 : Field} {v : Value} {d : DataW H} {p : List MemPlace} (hs : P.underlying t = some (.struct #[f0, f1, f2, f3, f4, f5, f6, f7, f8, f9])) (hone : oneCellFields P #[f0, f1, f2, f3, f4, f5, f6, f7, f8, f9] = true) (hC : P.cellsOf t = 10)
    (hv : Value.okWide P w r b0 t v) (h : DataW.Trod enc P w base spare held t v d p) :
    ∃ (c0 c1 c2 c3 c4 c5 c6 c7 c8 c9 : Value) (y0 y1 y2 y3 y4 y5 y6 y7 y8 y9 : DataW H × List MemPlace) (n : Nat), v = .agg #[c0, c1, c2, c3, c4, c5, c6, c7, c8, c9] ∧ DataW.trod enc P w base spare held n f0.type [c0] = some y0 ∧ DataW.trod enc P w base spare held n f1.type [c1] = some y1 ∧ DataW.trod enc P w base spare held n f2.type [c2] = some y2 ∧ DataW.trod enc P w base spare held n f3.type [c3] = some y3 ∧ DataW.trod enc P w base spare held n f4.type [c4] = some y4 ∧ DataW.trod enc P w base spare held n f5.type [c5] = some y5 ∧ DataW.trod enc P w base spare held n f6.type [c6] = some y6 ∧ DataW.trod enc P w base spare held n f7.type [c7] = some y7 ∧ DataW.trod enc P w base spare held n f8.type [c8] = some y8 ∧ DataW.trod enc P w base spare held n f9.type [c9] = some y9 := by
  obtain ⟨cs, rfl, hsz⟩ := okWide_struct hs hv
  obtain ⟨c0, c1, c2, c3, c4, c5, c6, c7, c8, c9, rfl⟩ := array10 (hsz.trans hC)
  obtain ⟨fuel, hf⟩ := h
  obtain ⟨y0, y1, y2, y3, y4, y5, y6, y7, y8, y9, n, h0, h1, h2, h3, h4, h5, h6, h7, h8, h9⟩ := trod_struct10 hs hf
  obtain ⟨o0, k0⟩ := hone_of hone 0 f0 rfl
  obtain ⟨o1, k1⟩ := hone_of hone 1 f1 rfl
  obtain ⟨o2, k2⟩ := hone_of hone 2 f2 rfl
  obtain ⟨o3, k3⟩ := hone_of hone 3 f3 rfl
  obtain ⟨o4, k4⟩ := hone_of hone 4 f4 rfl
  obtain ⟨o5, k5⟩ := hone_of hone 5 f5 rfl
  obtain ⟨o6, k6⟩ := hone_of hone 6 f6 rfl
  obtain ⟨o7, k7⟩ := hone_of hone 7 f7 rfl
  obtain ⟨o8, k8⟩ := hone_of hone 8 f8 rfl
  obtain ⟨o9, k9⟩ := hone_of hone 9 f9 rfl
  exact ⟨c0, c1, c2, c3, c4, c5, c6, c7, c8, c9, y0, y1, y2, y3, y4, y5, y6, y7, y8, y9, n, rfl, by simpa [Value.cells, o0, k0] using h0, by simpa [Value.cells, o1, k1] using h1, by simpa [Value.cells, o2, k2] using h2, by simpa [Value.cells, o3, k3] using h3, by simpa [Value.cells, o4, k4] using h4, by simpa [Value.cells, o5, k5] using h5, by simpa [Value.cells, o6, k6] using h6, by simpa [Value.cells, o7, k7] using h7, by simpa [Value.cells, o8, k8] using h8, by simpa [Value.cells, o9, k9] using h9⟩
end Go.Proofs.YtaccgciopmclhaaGreatDoor

/- What a list of cells holds, kept by whatever leaves old blocks as they were. -/
namespace Go.Proofs.YtaccgciopmclhaaGreatDoor
open Go.RowKit
theorem cell_in {W : World} {p : Addr} {v : Value} (h : W.cell? p = some v) : p.block < W.heap.size := by
  by_cases hb : p.block < W.heap.size
  · exact hb
  · exfalso
    simp [World.cell?, Array.getElem?_eq_none (show W.heap.size ≤ p.block by omega)] at h
/-- what these cells hold -/
def Cells (W : World) : List (Addr × Value) → Prop
  | [] => True
  | p :: L => W.cell? p.1 = some p.2 ∧ Cells W L
theorem Cells.below {W W' : World} : ∀ {L : List (Addr × Value)}, Cells W L → Below W.heap.size W W' → Cells W' L
  | [], _, _ => trivial
  | _ :: _, h, hb => ⟨(@Below.cell _ _ _ hb _ (cell_in h.1)).trans h.1, Cells.below h.2 hb⟩
theorem Cells.join {W : World} : ∀ {L M : List (Addr × Value)}, Cells W L → Cells W M → Cells W (L ++ M)
  | [], _, _, h => h
  | _ :: _, _, h, k => ⟨h.1, Cells.join h.2 k⟩
/-- a slice of texts, wherever it lies -/
def SliceH (w : World) (v : Value) (n : Nat) (f : Nat → ByteArray) : Prop := Hid (SliceS w 0 v n f)
theorem SliceH.out {w : World} {v : Value} {n : Nat} {f : Nat → ByteArray} (h : SliceH w v n f) : SliceS w 0 v n f := Hid.out h
theorem strip {w : World} {B n : Nat} {v : Value} {f : Nat → ByteArray} (h : SliceS w B v n f) : SliceH w v n f := by
  obtain ⟨p, cap, rfl, h⟩ := h
  exact (⟨p, cap, rfl, fun hn => by obtain ⟨g, e, _, r⟩ := h hn; exact ⟨g, e, Nat.zero_le _, r⟩⟩ : SliceS w 0 _ n f)
theorem SliceH.below {w w' : World} {v : Value} {n : Nat} {f : Nat → ByteArray} (h : SliceH w v n f) (hb : Below w.heap.size w w') : SliceH w' v n f := SliceS.below h.out hb
end Go.Proofs.YtaccgciopmclhaaGreatDoor

/- Slices of cookies; a slice of cookies that came in; the laws' szCookieS, toCookieS and eqCookieS over it. Written by cookiesin.py. -/
namespace Go.Proofs.YtaccgciopmclhaaGreatDoor
open Go.ChangeShapes Go.WideShapes Go.ChangeAt Go.RowKit Go.Joins Go.Deep

theorem ck_wf {n : Int} (h : (Lit.int .i64 n).wf = true) : -9223372036854775808 ≤ n ∧ n ≤ 9223372036854775807 := by
  simp [Lit.wf] at h
  have e1 : IntKind.i64.min = -9223372036854775808 := by decide
  have e2 : IntKind.i64.max = 9223372036854775807 := by decide
  omega
def atC (L : List Ck) (j : Nat) : Ck := L.getD j ckNone
/-- the cells of cookies -/
def ckR (L : List Ck) (j o : Nat) : Value := ckC (atC L j) o
/-- a slice of cookies -/
def SliceC (w : World) (B : Nat) (v : Value) (L : List Ck) : Prop := SliceR w B 10 v L.length (ckR L) ∧ ∃ p c, v = .slice p L.length c ∧ L.length ≤ c
theorem SliceC.below {w w' : World} {B : Nat} {v : Value} {L : List Ck} (h : SliceC w B v L) (hb : Below w.heap.size w w') : SliceC w' B v L := ⟨h.1.below hb, h.2⟩
theorem SliceC.mono {w : World} {B B' : Nat} {v : Value} {L : List Ck} (h : SliceC w B v L) (hB : B' ≤ B) : SliceC w B' v L := ⟨h.1.mono hB, h.2⟩
theorem trod_cells10 {H : Type} {enc : TypeId × Value → H} {P : Program} {w : World} {base : Nat} {spare : Nat → Bool} {held : Bool} {t : TypeId} {f0 f1 f2 f3 f4 f5 f6 f7 f8 f9 : Field} {fuel : Nat} {v0 v1 v2 v3 v4 v5 v6 v7 v8 v9 : Value} {x : DataW H × List MemPlace} (ht : P.underlying t = some (.struct #[f0, f1, f2, f3, f4, f5, f6, f7, f8, f9])) (hone : oneCellFields P #[f0, f1, f2, f3, f4, f5, f6, f7, f8, f9] = true) (h : DataW.trod enc P w base spare held fuel t [v0, v1, v2, v3, v4, v5, v6, v7, v8, v9] = some x) :
    ∃ (y0 y1 y2 y3 y4 y5 y6 y7 y8 y9 : DataW H × List MemPlace) (n : Nat), DataW.trod enc P w base spare held n f0.type [v0] = some y0 ∧ DataW.trod enc P w base spare held n f1.type [v1] = some y1 ∧ DataW.trod enc P w base spare held n f2.type [v2] = some y2 ∧ DataW.trod enc P w base spare held n f3.type [v3] = some y3 ∧ DataW.trod enc P w base spare held n f4.type [v4] = some y4 ∧ DataW.trod enc P w base spare held n f5.type [v5] = some y5 ∧ DataW.trod enc P w base spare held n f6.type [v6] = some y6 ∧ DataW.trod enc P w base spare held n f7.type [v7] = some y7 ∧ DataW.trod enc P w base spare held n f8.type [v8] = some y8 ∧ DataW.trod enc P w base spare held n f9.type [v9] = some y9 := by
  obtain ⟨y0, y1, y2, y3, y4, y5, y6, y7, y8, y9, n, h0, h1, h2, h3, h4, h5, h6, h7, h8, h9⟩ := trod_struct10 ht h
  obtain ⟨o0, k0⟩ := hone_of hone 0 f0 rfl
  obtain ⟨o1, k1⟩ := hone_of hone 1 f1 rfl
  obtain ⟨o2, k2⟩ := hone_of hone 2 f2 rfl
  obtain ⟨o3, k3⟩ := hone_of hone 3 f3 rfl
  obtain ⟨o4, k4⟩ := hone_of hone 4 f4 rfl
  obtain ⟨o5, k5⟩ := hone_of hone 5 f5 rfl
  obtain ⟨o6, k6⟩ := hone_of hone 6 f6 rfl
  obtain ⟨o7, k7⟩ := hone_of hone 7 f7 rfl
  obtain ⟨o8, k8⟩ := hone_of hone 8 f8 rfl
  obtain ⟨o9, k9⟩ := hone_of hone 9 f9 rfl
  exact ⟨y0, y1, y2, y3, y4, y5, y6, y7, y8, y9, n, by simpa [o0, k0] using h0, by simpa [o1, k1] using h1, by simpa [o2, k2] using h2, by simpa [o3, k3] using h3, by simpa [o4, k4] using h4, by simpa [o5, k5] using h5, by simpa [o6, k6] using h6, by simpa [o7, k7] using h7, by simpa [o8, k8] using h8, by simpa [o9, k9] using h9⟩
/-- cookies that a slice leads to -/
def CkRow (w : World) (a : Option Addr) (L : List Ck) : Prop := ∀ i, i < L.length → ∃ x, a = some x ∧ x.block < w.heap.size ∧ (∀ o, o < 10 → w.cell? (x.add (i * 10 + o)) = some (ckC (atC L i) o)) ∧ (atC L i).na.size ≤ maxLen ∧ (atC L i).va.size ≤ maxLen ∧ (atC L i).ho.size ≤ maxLen ∧ (atC L i).pa.size ≤ maxLen ∧ (atC L i).pt.size ≤ maxLen ∧ -9223372036854775808 ≤ (atC L i).mo ∧ (atC L i).mo ≤ 9223372036854775807 ∧ -9223372036854775808 ≤ (atC L i).un ∧ (atC L i).un ≤ 9223372036854775807 ∧ -9223372036854775808 ≤ (atC L i).ma ∧ (atC L i).ma ≤ 9223372036854775807
theorem CkRow.below {w w' : World} {a : Option Addr} {L : List Ck} (h : CkRow w a L) (hb : Below w.heap.size w w') : CkRow w' a L := by
  intro i hi
  obtain ⟨x, e, hx, hc, hs⟩ := h i hi
  exact ⟨x, e, Nat.lt_of_lt_of_le hx hb.size, fun o ho => by rw [hb.cell (p := x.add (i * 10 + o)) (by rw [addr_blk]; exact hx)]; exact hc o ho, hs⟩
theorem list10 {α : Type} {cs : List α} (h : cs.length = 10) : ∃ c0 c1 c2 c3 c4 c5 c6 c7 c8 c9, cs = [c0, c1, c2, c3, c4, c5, c6, c7, c8, c9] := by
  match cs, h with
  | [c0, c1, c2, c3, c4, c5, c6, c7, c8, c9], _ => exact ⟨c0, c1, c2, c3, c4, c5, c6, c7, c8, c9, rfl⟩
set_option maxRecDepth 10000 in
set_option maxHeartbeats 4000000 in
theorem ckRow_of {H : Type} {enc : TypeId × Value → H} {W : World} {a : Option Addr} {len cap : Nat} {d : DataW H} {p : List MemPlace}
    (h : ∃ fuel, DataW.trod enc Tryz.prog W 0 (fun _ => true) true fuel 25 (Value.slice a len cap).cells.toList = some (d, p)) : (∃ L, L.length = len ∧ CkRow W a L) ∧ len ≤ maxLen := by
  obtain ⟨fuel, hf⟩ := h
  rcases Go.Deep.open_slice Tryz.underlying25 hf with ⟨hcs, _⟩ | ⟨x, l, c, m, n, D, Pl, hcs, _, hl, hm, hmm, _, hcell⟩
  · simp [Value.cells] at hcs
    obtain ⟨rfl, rfl, rfl⟩ := hcs
    exact ⟨⟨[], rfl, fun i hi => absurd hi (by simp)⟩, Nat.zero_le _⟩
  · simp [Value.cells] at hcs
    obtain ⟨rfl, rfl, rfl⟩ := hcs
    have hmc : m = cap := by simpa using hmm
    have ce : Tryz.prog.cellsOf 112 = 10 := by kernel_rfl
    have each : ∀ i, i < len → ∃ q : Ck, (∀ o, o < 10 → W.cell? (x.add (i * 10 + o)) = some (ckC q o)) ∧ q.na.size ≤ maxLen ∧ q.va.size ≤ maxLen ∧ q.ho.size ≤ maxLen ∧ q.pa.size ≤ maxLen ∧ q.pt.size ≤ maxLen ∧ -9223372036854775808 ≤ q.mo ∧ q.mo ≤ 9223372036854775807 ∧ -9223372036854775808 ≤ q.un ∧ q.un ≤ 9223372036854775807 ∧ -9223372036854775808 ≤ q.ma ∧ q.ma ≤ 9223372036854775807 := fun i hi => by
      obtain ⟨cs', h1, h2⟩ := hcell i (by omega)
      rw [ce] at h1
      obtain ⟨_, hlen, hc⟩ := World.cells?_some h1
      obtain ⟨v0, v1, v2, v3, v4, v5, v6, v7, v8, v9, rfl⟩ := list10 hlen
      obtain ⟨y0, y1, y2, y3, y4, y5, y6, y7, y8, y9, n', g0, g1, g2, g3, g4, g5, g6, g7, g8, g9⟩ := trod_cells10 Tryz.underlying112 (by kernel_rfl) h2
      obtain ⟨s0, e0, -, z0⟩ := DataW.trod_string Tryz.underlying9 g0
      obtain ⟨s1, e1, -, z1⟩ := DataW.trod_string Tryz.underlying9 g1
      obtain ⟨s2, e2, -, z2⟩ := DataW.trod_string Tryz.underlying9 g2
      obtain ⟨s3, e3, -⟩ := DataW.trod_bool Tryz.underlying4 g3
      obtain ⟨s4, e4, -, z4⟩ := DataW.trod_string Tryz.underlying9 g4
      obtain ⟨s5, e5, -⟩ := DataW.trod_bool Tryz.underlying4 g5
      obtain ⟨s6, e6, -, z6⟩ := DataW.trod_int Tryz.underlying2 g6
      obtain ⟨s7, e7, -, z7⟩ := DataW.trod_string Tryz.underlying9 g7
      obtain ⟨s8, e8, -, z8⟩ := DataW.trod_int Tryz.underlying2 g8
      obtain ⟨s9, e9, -, z9⟩ := DataW.trod_int Tryz.underlying2 g9
      simp only [List.cons.injEq, and_true] at e0 e1 e2 e3 e4 e5 e6 e7 e8 e9
      subst e0 e1 e2 e3 e4 e5 e6 e7 e8 e9
      refine ⟨⟨s0, s1, s2, s3, s4, s5, s6, s7, s8, s9⟩, fun o ho => ?_, z0, z1, z2, z4, z7, (ck_wf z6).1, (ck_wf z6).2, (ck_wf z8).1, (ck_wf z8).2, (ck_wf z9).1, (ck_wf z9).2⟩
      have hco := hc o ho
      rw [add_add] at hco
      rw [hco]
      match o, ho with
      | 0, _ => rfl
      | 1, _ => rfl
      | 2, _ => rfl
      | 3, _ => rfl
      | 4, _ => rfl
      | 5, _ => rfl
      | 6, _ => rfl
      | 7, _ => rfl
      | 8, _ => rfl
      | 9, _ => rfl
    obtain ⟨q, hq⟩ := @Go.Deep.choose_lt Ck ⟨ckNone⟩ len _ each
    refine ⟨⟨(List.range len).map q, by simp, fun i hi => ?_⟩, by omega⟩
    have hi' : i < len := by simpa using hi
    have e : atC ((List.range len).map q) i = q i := by simp [atC, hi']
    rw [e]
    refine ⟨x, rfl, ?_, hq i hi'⟩
    have := World.block_lt_of_cell? W _ ((hq i hi').1 0 (by omega))
    rw [addr_blk] at this; exact this
set_option maxRecDepth 10000 in
set_option maxHeartbeats 4000000 in
theorem szCookieS_any (a : Option Addr) (cap : Nat) (L : List Ck) (l : Int) (w : World) (hr : CkRow w a L) (hn : L.length ≤ maxLen) (h0 : 0 ≤ l) (h1 : l ≤ 1048576) :
    Calls Tryz.prog 22 #[.slice a L.length cap, .int .i64 l] w fun e w' => (∃ r : Int, e = .returned (.int .i64 r) ∧ (r < 0 ∨ (0 ≤ r ∧ r ≤ 1048576 ∧ L.length ≤ 1048576 ∧ ∀ i, i < L.length → (atC L i).na.size + (atC L i).va.size + (atC L i).ho.size + (atC L i).pa.size + (atC L i).pt.size ≤ 1048576))) ∧ Below w.heap.size w w' := by
  unfold maxLen at hn
  by_cases hl : l < L.length
  · have q : decide (l - (L.length : Int) < 0) = true := by rw [decide_eq_true_iff]; omega
    go_enter Tryz.func22, Tryz.ntmps22
    go_wp2
    go_ret
    exact ⟨⟨_, rfl, .inl (by decide)⟩, Below.refl _ _⟩
  have q : decide (l - (L.length : Int) < 0) = false := by rw [decide_eq_false_iff_not]; omega
  have HR : Hid (CkRow w a L) := hr
  clear hr
  go_enter Tryz.func22, Tryz.ntmps22
  go_wp2
  go_loopw [1, 5] (fun v i wr => ∃ (k : Nat) (z : Int), k ≤ L.length ∧ v = .int .i64 z ∧ i = .int .i64 k ∧ 0 ≤ z ∧ z ≤ 1048576 ∧ Hid (∀ i, i < k → (atC L i).na.size + (atC L i).va.size + (atC L i).ho.size + (atC L i).pa.size + (atC L i).pt.size ≤ 1048576) ∧ Hid (Below w.heap.size w wr)) (fun _ i _ => L.length - (intOf i).toNat)
  case atStart => exact ⟨0, _, Nat.zero_le _, rfl, rfl, by omega, by omega, fun i hi => absurd hi (by omega), Below.refl _ _⟩
  case round =>
    obtain ⟨k, z, hk, rfl, rfl, z0, zl, HS, HB⟩ := hrel
    by_cases hlt : k < L.length
    · obtain ⟨x, rfl, hx, hc, hs0, hs1, hs2, hs4, hs7, -⟩ := HR.out.below HB.out k hlt
      have c0 : wr.cell? (x.add (k * 10)) = some (.string (atC L k).na) := hc 0 (by omega)
      have c1 : wr.cell? ⟨(x.add (k * 10)).block, (x.add (k * 10)).off + 1, none⟩ = some (.string (atC L k).va) := by rw [show (.string (atC L k).va) = ckC (atC L k) 1 from rfl, ← hc 1 (by omega), ← add_add]; rfl
      have c2 : wr.cell? ⟨(x.add (k * 10)).block, (x.add (k * 10)).off + 2, none⟩ = some (.string (atC L k).ho) := by rw [show (.string (atC L k).ho) = ckC (atC L k) 2 from rfl, ← hc 2 (by omega), ← add_add]; rfl
      have c3 : wr.cell? ⟨(x.add (k * 10)).block, (x.add (k * 10)).off + 3, none⟩ = some (.bool (atC L k).al) := by rw [show (.bool (atC L k).al) = ckC (atC L k) 3 from rfl, ← hc 3 (by omega), ← add_add]; rfl
      have c4 : wr.cell? ⟨(x.add (k * 10)).block, (x.add (k * 10)).off + 4, none⟩ = some (.string (atC L k).pa) := by rw [show (.string (atC L k).pa) = ckC (atC L k) 4 from rfl, ← hc 4 (by omega), ← add_add]; rfl
      have c5 : wr.cell? ⟨(x.add (k * 10)).block, (x.add (k * 10)).off + 5, none⟩ = some (.bool (atC L k).se) := by rw [show (.bool (atC L k).se) = ckC (atC L k) 5 from rfl, ← hc 5 (by omega), ← add_add]; rfl
      have c6 : wr.cell? ⟨(x.add (k * 10)).block, (x.add (k * 10)).off + 6, none⟩ = some (.int .i64 (atC L k).mo) := by rw [show (.int .i64 (atC L k).mo) = ckC (atC L k) 6 from rfl, ← hc 6 (by omega), ← add_add]; rfl
      have c7 : wr.cell? ⟨(x.add (k * 10)).block, (x.add (k * 10)).off + 7, none⟩ = some (.string (atC L k).pt) := by rw [show (.string (atC L k).pt) = ckC (atC L k) 7 from rfl, ← hc 7 (by omega), ← add_add]; rfl
      have c8 : wr.cell? ⟨(x.add (k * 10)).block, (x.add (k * 10)).off + 8, none⟩ = some (.int .i64 (atC L k).un) := by rw [show (.int .i64 (atC L k).un) = ckC (atC L k) 8 from rfl, ← hc 8 (by omega), ← add_add]; rfl
      have c9 : wr.cell? ⟨(x.add (k * 10)).block, (x.add (k * 10)).off + 9, none⟩ = some (.int .i64 (atC L k).ma) := by rw [show (.int .i64 (atC L k).ma) = ckC (atC L k) 9 from rfl, ← hc 9 (by omega), ← add_add]; rfl
      have KZ : Hid (∀ W, Calls Tryz.prog 70 #[.agg #[.string (atC L k).na, .string (atC L k).va, .string (atC L k).ho, .bool (atC L k).al, .string (atC L k).pa, .bool (atC L k).se, .int .i64 (atC L k).mo, .string (atC L k).pt, .int .i64 (atC L k).un, .int .i64 (atC L k).ma], .int .i64 z] W fun e w' => (∃ r : Int, e = .returned (.int .i64 r) ∧ (r < 0 ∨ (0 ≤ r ∧ r ≤ 1048576 ∧ (atC L k).na.size + (atC L k).va.size + (atC L k).ho.size + (atC L k).pa.size + (atC L k).pt.size ≤ 1048576))) ∧ Below W.heap.size W w') := fun W => szCookie_at (atC L k).na (atC L k).va (atC L k).ho (atC L k).al (atC L k).pa (atC L k).se (atC L k).mo (atC L k).pt (atC L k).un (atC L k).ma z W hs0 hs1 hs2 hs4 hs7 z0 zl
      have k0 : (0 : Int) ≤ k := by omega
      have k1 : (k : Int) < L.length := by omega
      have HN : Hid ((atC L k).na.size + (atC L k).va.size + (atC L k).ho.size + (atC L k).pa.size + (atC L k).pt.size ≤ 1048576 → ∀ i, i < k + 1 → (atC L i).na.size + (atC L i).va.size + (atC L i).ho.size + (atC L i).pa.size + (atC L i).pt.size ≤ 1048576) := fun hs i hi => by
        by_cases e : i = k
        · subst e; exact hs
        · exact HS.out i (by omega)
      clear hc hs0 hs1 hs2 hs4 hs7
      generalize atC L k = y at *
      obtain ⟨na, va, ho, al, pa, se, mo, pt, un, ma⟩ := y
      dsimp only at *
      go_wp2_with fail
      refine (KZ.out _).mono ?_
      rintro e w1 ⟨⟨r, rfl, hr⟩, hb1⟩
      have B1 : Hid (Below w.heap.size w w1) := HB.out.trans (hb1.mono HB.out.size)
      clear hb1 c0 c1 c2 c3 c4 c5 c6 c7 c8 c9
      rcases hr with hr | ⟨r0, r1, hsum⟩
      · have q2 : decide (r < 0) = true := by rw [decide_eq_true_iff]; exact hr
        go_wp2
        go_ret
        exact ⟨⟨_, rfl, .inl (by decide)⟩, B1.out⟩
      · have q2 : decide (r < 0) = false := by rw [decide_eq_false_iff_not]; omega
        have HN2 : Hid (∀ i, i < k + 1 → (atC L i).na.size + (atC L i).va.size + (atC L i).ho.size + (atC L i).pa.size + (atC L i).pt.size ≤ 1048576) := HN.out hsum
        clear hsum
        go_wp2
        go_roundw
        case rel => exact ⟨k + 1, r, by omega, rfl, by go_num, r0, r1, HN2, B1⟩
        case measure => simp [intOf]; omega
    · go_wp2
      go_ret
      exact ⟨⟨_, rfl, .inr ⟨z0, zl, by omega, fun i hi => HS.out i (by omega)⟩⟩, HB.out⟩
theorem infoCookie : (Tryz.prog.info? 125).map (fun i => (i.zero, i.size, i.bytes)) = some (some (.agg #[.string ⟨#[]⟩, .string ⟨#[]⟩, .string ⟨#[]⟩, .bool false, .string ⟨#[]⟩, .bool false, .int .i64 0, .string ⟨#[]⟩, .int .i64 0, .int .i64 0]), 10, 120) := by kernel_rfl
/-- the first k as they are, the others empty -/
def uptoC (L : List Ck) (k j o : Nat) : Value := if j < k then ckC (atC L j) o else ckC ckNone o
theorem make_cookies (w : World) (n : Nat) (hn : n ≤ 1048576) :
    ∃ w', Sem.run Tryz.prog (Instr.makeSlice 34 (.int .i64 (n : Int)) (.int .i64 (n : Int))) w = .ok (.slice (some ⟨w.heap.size, 0, none⟩) n n) w' ∧ SliceR w' w.heap.size 10 (.slice (some ⟨w.heap.size, 0, none⟩) n n) n (fun _ o => ckC ckNone o) ∧ w.heap.size < w'.heap.size ∧ Below w.heap.size w w' := by
  obtain ⟨i, h2, h3, h4, h5⟩ := info_parts infoCookie
  have hrun := run_make (P := Tryz.prog) w 34 125 i (.agg #[.string ⟨#[]⟩, .string ⟨#[]⟩, .string ⟨#[]⟩, .bool false, .string ⟨#[]⟩, .bool false, .int .i64 0, .string ⟨#[]⟩, .int .i64 0, .int .i64 0]) Tryz.underlying34 h2 h3 .i64 .i64 n n (by omega) (Int.le_refl _) (by rw [h5]; omega) (by omega)
  simp only [Int.toNat_natCast, h4] at hrun
  refine ⟨_, hrun, ?_, by simp, (Below.refl _ _).alloc (Nat.le_refl _) _⟩
  refine ⟨_, _, rfl, fun _ => ⟨w.heap.size, rfl, Nat.le_refl _, by simp, fun j hj o ho => ⟨?_, by simp⟩⟩⟩
  rw [World.cell?_alloc_new]
  have hz : j * 10 + o < n * 10 := by omega
  have hm : (j * 10 + o) % 10 = o := by omega
  have e : (madeCells (Value.agg #[.string ⟨#[]⟩, .string ⟨#[]⟩, .string ⟨#[]⟩, .bool false, .string ⟨#[]⟩, .bool false, .int .i64 0, .string ⟨#[]⟩, .int .i64 0, .int .i64 0]).cells (n * 10))[j * 10 + o]? = some (ckC ckNone o) := by
    rw [Array.getElem?_eq_some_iff]
    refine ⟨by rw [size_madeCells]; exact hz, ?_⟩
    unfold madeCells
    rw [Array.getElem_map, Array.getElem_range]
    show (#[.string ⟨#[]⟩, .string ⟨#[]⟩, .string ⟨#[]⟩, .bool false, .string ⟨#[]⟩, .bool false, .int .i64 0, .string ⟨#[]⟩, .int .i64 0, .int .i64 0] : Array Value)[(j * 10 + o) % 10]! = _
    rw [hm]
    match o, ho with
    | 0, _ => rfl
    | 1, _ => rfl
    | 2, _ => rfl
    | 3, _ => rfl
    | 4, _ => rfl
    | 5, _ => rfl
    | 6, _ => rfl
    | 7, _ => rfl
    | 8, _ => rfl
    | 9, _ => rfl
  exact e
/-- ten cells written: one cookie put at its place -/
theorem SliceR.put10 {w : World} {B n m g cap : Nat} {f : Nat → Nat → Value} (hs : SliceR w B 10 (.slice (some ⟨g, 0, none⟩) m cap) n f) (k : Nat) (hk : k < n) (c : Ck) :
    SliceR ((((((((((w.setCell ⟨g, k * 10 + 0, none⟩ (.string c.na)).setCell ⟨g, k * 10 + 1, none⟩ (.string c.va)).setCell ⟨g, k * 10 + 2, none⟩ (.string c.ho)).setCell ⟨g, k * 10 + 3, none⟩ (.bool c.al)).setCell ⟨g, k * 10 + 4, none⟩ (.string c.pa)).setCell ⟨g, k * 10 + 5, none⟩ (.bool c.se)).setCell ⟨g, k * 10 + 6, none⟩ (.int .i64 c.mo)).setCell ⟨g, k * 10 + 7, none⟩ (.string c.pt)).setCell ⟨g, k * 10 + 8, none⟩ (.int .i64 c.un)).setCell ⟨g, k * 10 + 9, none⟩ (.int .i64 c.ma)) B 10 (.slice (some ⟨g, 0, none⟩) m cap) n (fun j o => if j = k then ckC c o else f j o) := by
  refine SliceR.congr (SliceR.set (SliceR.set (SliceR.set (SliceR.set (SliceR.set (SliceR.set (SliceR.set (SliceR.set (SliceR.set (SliceR.set (hs) k 0 hk (by omega) _) k 1 hk (by omega) _) k 2 hk (by omega) _) k 3 hk (by omega) _) k 4 hk (by omega) _) k 5 hk (by omega) _) k 6 hk (by omega) _) k 7 hk (by omega) _) k 8 hk (by omega) _) k 9 hk (by omega) _) (fun j hj o ho => ?_)
  by_cases e : j = k
  · subst e
    match o, ho with
    | 0, _ => simp [updR, ckC]
    | 1, _ => simp [updR, ckC]
    | 2, _ => simp [updR, ckC]
    | 3, _ => simp [updR, ckC]
    | 4, _ => simp [updR, ckC]
    | 5, _ => simp [updR, ckC]
    | 6, _ => simp [updR, ckC]
    | 7, _ => simp [updR, ckC]
    | 8, _ => simp [updR, ckC]
    | 9, _ => simp [updR, ckC]
  · simp [updR, e]
set_option maxRecDepth 10000 in
set_option maxHeartbeats 4000000 in
theorem toCookieS_any (a : Option Addr) (cap : Nat) (L : List Ck) (w : World) (hr : CkRow w a L) (hn : L.length ≤ 1048576) :
    Calls Tryz.prog 35 #[.slice a L.length cap] w fun e w' => ∃ v, e = .returned v ∧ SliceC w' w.heap.size v L ∧ Below w.heap.size w w' := by
  have HR : Hid (CkRow w a L) := hr
  clear hr
  obtain ⟨w1, hmk, hs1, hz1, hb1⟩ := make_cookies w L.length hn
  have HS1 : Hid (SliceR w1 w.heap.size 10 (.slice (some ⟨w.heap.size, 0, none⟩) L.length L.length) L.length (uptoC L 0)) := SliceR.congr hs1 (fun j _ o _ => by unfold uptoC; rw [if_neg (by omega)])
  have HB1 : Hid (Below w.heap.size w w1) := hb1
  clear hs1 hb1
  go_enter Tryz.func35, Tryz.ntmps35
  go_wp2
  clear hmk
  go_loopw [4] (fun i wr => ∃ k : Nat, k ≤ L.length ∧ i = .int .i64 k ∧ Hid (SliceR wr w.heap.size 10 (.slice (some ⟨w.heap.size, 0, none⟩) L.length L.length) L.length (uptoC L k)) ∧ Hid (Below w.heap.size w wr)) (fun i _ => L.length - (intOf i).toNat)
  case atStart => exact ⟨0, Nat.zero_le _, rfl, HS1, HB1⟩
  case round =>
    obtain ⟨k, hk, rfl, HS, HB⟩ := hrel
    by_cases hlt : k < L.length
    · obtain ⟨x, rfl, hx, hc, -⟩ := HR.out.below HB.out k hlt
      have c0 : wr.cell? (x.add (k * 10)) = some (.string (atC L k).na) := hc 0 (by omega)
      have c1 : wr.cell? ⟨(x.add (k * 10)).block, (x.add (k * 10)).off + 1, none⟩ = some (.string (atC L k).va) := by rw [show (.string (atC L k).va) = ckC (atC L k) 1 from rfl, ← hc 1 (by omega), ← add_add]; rfl
      have c2 : wr.cell? ⟨(x.add (k * 10)).block, (x.add (k * 10)).off + 2, none⟩ = some (.string (atC L k).ho) := by rw [show (.string (atC L k).ho) = ckC (atC L k) 2 from rfl, ← hc 2 (by omega), ← add_add]; rfl
      have c3 : wr.cell? ⟨(x.add (k * 10)).block, (x.add (k * 10)).off + 3, none⟩ = some (.bool (atC L k).al) := by rw [show (.bool (atC L k).al) = ckC (atC L k) 3 from rfl, ← hc 3 (by omega), ← add_add]; rfl
      have c4 : wr.cell? ⟨(x.add (k * 10)).block, (x.add (k * 10)).off + 4, none⟩ = some (.string (atC L k).pa) := by rw [show (.string (atC L k).pa) = ckC (atC L k) 4 from rfl, ← hc 4 (by omega), ← add_add]; rfl
      have c5 : wr.cell? ⟨(x.add (k * 10)).block, (x.add (k * 10)).off + 5, none⟩ = some (.bool (atC L k).se) := by rw [show (.bool (atC L k).se) = ckC (atC L k) 5 from rfl, ← hc 5 (by omega), ← add_add]; rfl
      have c6 : wr.cell? ⟨(x.add (k * 10)).block, (x.add (k * 10)).off + 6, none⟩ = some (.int .i64 (atC L k).mo) := by rw [show (.int .i64 (atC L k).mo) = ckC (atC L k) 6 from rfl, ← hc 6 (by omega), ← add_add]; rfl
      have c7 : wr.cell? ⟨(x.add (k * 10)).block, (x.add (k * 10)).off + 7, none⟩ = some (.string (atC L k).pt) := by rw [show (.string (atC L k).pt) = ckC (atC L k) 7 from rfl, ← hc 7 (by omega), ← add_add]; rfl
      have c8 : wr.cell? ⟨(x.add (k * 10)).block, (x.add (k * 10)).off + 8, none⟩ = some (.int .i64 (atC L k).un) := by rw [show (.int .i64 (atC L k).un) = ckC (atC L k) 8 from rfl, ← hc 8 (by omega), ← add_add]; rfl
      have c9 : wr.cell? ⟨(x.add (k * 10)).block, (x.add (k * 10)).off + 9, none⟩ = some (.int .i64 (atC L k).ma) := by rw [show (.int .i64 (atC L k).ma) = ckC (atC L k) 9 from rfl, ← hc 9 (by omega), ← add_add]; rfl
      have KT : Hid (∀ W, Calls Tryz.prog 87 #[.agg #[.string (atC L k).na, .string (atC L k).va, .string (atC L k).ho, .bool (atC L k).al, .string (atC L k).pa, .bool (atC L k).se, .int .i64 (atC L k).mo, .string (atC L k).pt, .int .i64 (atC L k).un, .int .i64 (atC L k).ma]] W fun e w' => e = .returned (.agg #[.string (atC L k).na, .string (atC L k).va, .string (atC L k).ho, .bool (atC L k).al, .string (atC L k).pa, .bool (atC L k).se, .int .i64 (atC L k).mo, .string (atC L k).pt, .int .i64 (atC L k).un, .int .i64 (atC L k).ma]) ∧ Below W.heap.size W w') := fun W => toCookie_any _ _ _ _ _ _ _ _ _ _ W
      have HP : Hid (∀ w2 f, SliceR w2 w.heap.size 10 (.slice (some ⟨w.heap.size, 0, none⟩) L.length L.length) L.length f → SliceR ((((((((((w2.setCell ⟨w.heap.size, k * 10 + 0, none⟩ (.string (atC L k).na)).setCell ⟨w.heap.size, k * 10 + 1, none⟩ (.string (atC L k).va)).setCell ⟨w.heap.size, k * 10 + 2, none⟩ (.string (atC L k).ho)).setCell ⟨w.heap.size, k * 10 + 3, none⟩ (.bool (atC L k).al)).setCell ⟨w.heap.size, k * 10 + 4, none⟩ (.string (atC L k).pa)).setCell ⟨w.heap.size, k * 10 + 5, none⟩ (.bool (atC L k).se)).setCell ⟨w.heap.size, k * 10 + 6, none⟩ (.int .i64 (atC L k).mo)).setCell ⟨w.heap.size, k * 10 + 7, none⟩ (.string (atC L k).pt)).setCell ⟨w.heap.size, k * 10 + 8, none⟩ (.int .i64 (atC L k).un)).setCell ⟨w.heap.size, k * 10 + 9, none⟩ (.int .i64 (atC L k).ma)) w.heap.size 10 (.slice (some ⟨w.heap.size, 0, none⟩) L.length L.length) L.length (fun j o => if j = k then ckC (atC L k) o else f j o)) := fun w2 f hh => SliceR.put10 hh k hlt (atC L k)
      have HU : Hid (∀ j o, (if j = k then ckC (atC L k) o else uptoC L k j o) = uptoC L (k + 1) j o) := fun j o => by
        unfold uptoC
        by_cases e : j = k
        · subst e; rw [if_pos rfl, if_pos (by omega)]
        · rw [if_neg e]
          by_cases h : j < k
          · rw [if_pos h, if_pos (by omega)]
          · rw [if_neg h, if_neg (by omega)]
      have k0 : (0 : Int) ≤ k := by omega
      have k1 : (k : Int) < L.length := by omega
      clear hc
      generalize atC L k = y at *
      obtain ⟨na, va, ho, al, pa, se, mo, pt, un, ma⟩ := y
      dsimp only at *
      go_wp2_with fail
      refine (KT.out _).mono ?_
      rintro e w2 ⟨rfl, hb2⟩
      have S2 : Hid (SliceR w2 w.heap.size 10 (.slice (some ⟨w.heap.size, 0, none⟩) L.length L.length) L.length (uptoC L k)) := SliceR.below HS.out hb2
      have B2 : Hid (Below w.heap.size w w2) := HB.out.trans (hb2.mono HB.out.size)
      clear hb2 hx c0 c1 c2 c3 c4 c5 c6 c7 c8 c9
      obtain ⟨d0, f0, d1, f1, d2, f2, d3, f3, d4, f4, d5, f5, d6, f6, d7, f7, d8, f8, d9, f9⟩ : w2.cell? ⟨w.heap.size, k * 10, none⟩ = some (uptoC L k k 0) ∧ w2.frozen? ⟨w.heap.size, k * 10, none⟩ = false ∧ w2.cell? ⟨w.heap.size, k * 10 + 1, none⟩ = some (uptoC L k k 1) ∧ w2.frozen? ⟨w.heap.size, k * 10 + 1, none⟩ = false ∧ w2.cell? ⟨w.heap.size, k * 10 + 2, none⟩ = some (uptoC L k k 2) ∧ w2.frozen? ⟨w.heap.size, k * 10 + 2, none⟩ = false ∧ w2.cell? ⟨w.heap.size, k * 10 + 3, none⟩ = some (uptoC L k k 3) ∧ w2.frozen? ⟨w.heap.size, k * 10 + 3, none⟩ = false ∧ w2.cell? ⟨w.heap.size, k * 10 + 4, none⟩ = some (uptoC L k k 4) ∧ w2.frozen? ⟨w.heap.size, k * 10 + 4, none⟩ = false ∧ w2.cell? ⟨w.heap.size, k * 10 + 5, none⟩ = some (uptoC L k k 5) ∧ w2.frozen? ⟨w.heap.size, k * 10 + 5, none⟩ = false ∧ w2.cell? ⟨w.heap.size, k * 10 + 6, none⟩ = some (uptoC L k k 6) ∧ w2.frozen? ⟨w.heap.size, k * 10 + 6, none⟩ = false ∧ w2.cell? ⟨w.heap.size, k * 10 + 7, none⟩ = some (uptoC L k k 7) ∧ w2.frozen? ⟨w.heap.size, k * 10 + 7, none⟩ = false ∧ w2.cell? ⟨w.heap.size, k * 10 + 8, none⟩ = some (uptoC L k k 8) ∧ w2.frozen? ⟨w.heap.size, k * 10 + 8, none⟩ = false ∧ w2.cell? ⟨w.heap.size, k * 10 + 9, none⟩ = some (uptoC L k k 9) ∧ w2.frozen? ⟨w.heap.size, k * 10 + 9, none⟩ = false := by
        obtain ⟨p, c, e, hh⟩ := S2.out
        injection e with e1
        obtain ⟨g, e2, -, -, hc⟩ := hh (by omega)
        rw [e2] at e1
        injection e1 with e1
        injection e1 with e1
        subst e1
        exact ⟨(hc k hlt 0 (by omega)).1, (hc k hlt 0 (by omega)).2, (hc k hlt 1 (by omega)).1, (hc k hlt 1 (by omega)).2, (hc k hlt 2 (by omega)).1, (hc k hlt 2 (by omega)).2, (hc k hlt 3 (by omega)).1, (hc k hlt 3 (by omega)).2, (hc k hlt 4 (by omega)).1, (hc k hlt 4 (by omega)).2, (hc k hlt 5 (by omega)).1, (hc k hlt 5 (by omega)).2, (hc k hlt 6 (by omega)).1, (hc k hlt 6 (by omega)).2, (hc k hlt 7 (by omega)).1, (hc k hlt 7 (by omega)).2, (hc k hlt 8 (by omega)).1, (hc k hlt 8 (by omega)).2, (hc k hlt 9 (by omega)).1, (hc k hlt 9 (by omega)).2⟩
      generalize uptoC L k k 0 = z0 at *
      generalize uptoC L k k 1 = z1 at *
      generalize uptoC L k k 2 = z2 at *
      generalize uptoC L k k 3 = z3 at *
      generalize uptoC L k k 4 = z4 at *
      generalize uptoC L k k 5 = z5 at *
      generalize uptoC L k k 6 = z6 at *
      generalize uptoC L k k 7 = z7 at *
      generalize uptoC L k k 8 = z8 at *
      generalize uptoC L k k 9 = z9 at *
      have HN : Hid (SliceR ((((((((((w2.setCell ⟨w.heap.size, k * 10 + 0, none⟩ (.string na)).setCell ⟨w.heap.size, k * 10 + 1, none⟩ (.string va)).setCell ⟨w.heap.size, k * 10 + 2, none⟩ (.string ho)).setCell ⟨w.heap.size, k * 10 + 3, none⟩ (.bool al)).setCell ⟨w.heap.size, k * 10 + 4, none⟩ (.string pa)).setCell ⟨w.heap.size, k * 10 + 5, none⟩ (.bool se)).setCell ⟨w.heap.size, k * 10 + 6, none⟩ (.int .i64 mo)).setCell ⟨w.heap.size, k * 10 + 7, none⟩ (.string pt)).setCell ⟨w.heap.size, k * 10 + 8, none⟩ (.int .i64 un)).setCell ⟨w.heap.size, k * 10 + 9, none⟩ (.int .i64 ma)) w.heap.size 10 (.slice (some ⟨w.heap.size, 0, none⟩) L.length L.length) L.length (uptoC L (k + 1))) := SliceR.congr (HP.out w2 _ S2.out) (fun j hj o ho => HU.out j o)
      go_wp2
      go_roundw
      case rel => exact ⟨k + 1, by omega, by go_num, HN, (((((((((B2.out.setCell (Nat.le_refl _) _).setCell (Nat.le_refl _) _).setCell (Nat.le_refl _) _).setCell (Nat.le_refl _) _).setCell (Nat.le_refl _) _).setCell (Nat.le_refl _) _).setCell (Nat.le_refl _) _).setCell (Nat.le_refl _) _).setCell (Nat.le_refl _) _).setCell (Nat.le_refl _) _⟩
      case measure => simp [intOf]; omega
    · go_wp2
      go_ret
      refine ⟨_, rfl, ⟨?_, _, _, rfl, Nat.le_refl _⟩, HB.out⟩
      exact SliceR.congr HS.out (fun j hj o ho => by unfold uptoC ckR; rw [if_pos (by omega)])
set_option maxRecDepth 10000 in
set_option maxHeartbeats 8000000 in
theorem eqCookieS_any (a b : Value) (L : List Ck) (B B' : Nat) (w : World) (ha : SliceC w B a L) (hb : SliceC w B' b L) (hn : L.length ≤ 1048576) :
    Calls Tryz.prog 47 #[a, b] w fun e w' => e = .returned (.bool true) ∧ Below w.heap.size w w' := by
  obtain ⟨⟨p, cap, rfl, h1⟩, -⟩ := ha
  obtain ⟨⟨p', cap', rfl, h2⟩, -⟩ := hb
  have H1 : Hid (0 < L.length → ∃ g, p = some ⟨g, 0, none⟩ ∧ B ≤ g ∧ g < w.heap.size ∧ ∀ j, j < L.length → ∀ o, o < 10 → w.cell? ⟨g, j * 10 + o, none⟩ = some (ckR L j o) ∧ w.frozen? ⟨g, j * 10 + o, none⟩ = false) := h1
  have H2 : Hid (0 < L.length → ∃ g, p' = some ⟨g, 0, none⟩ ∧ B' ≤ g ∧ g < w.heap.size ∧ ∀ j, j < L.length → ∀ o, o < 10 → w.cell? ⟨g, j * 10 + o, none⟩ = some (ckR L j o) ∧ w.frozen? ⟨g, j * 10 + o, none⟩ = false) := h2
  clear h1 h2
  go_enter Tryz.func47, Tryz.ntmps47
  go_wp2
  go_loopw [5] (fun i wr => ∃ k : Nat, k ≤ L.length ∧ i = .int .i64 k ∧ Hid (Below w.heap.size w wr)) (fun i _ => L.length - (intOf i).toNat)
  case atStart => exact ⟨0, by omega, rfl, Below.refl _ _⟩
  case round =>
    obtain ⟨k, hk, rfl, HB⟩ := hrel
    by_cases hlt : k < L.length
    · obtain ⟨g, rfl, -, hg, hc⟩ := H1.out (by omega)
      obtain ⟨g', rfl, -, hg', hc'⟩ := H2.out (by omega)
      have hgr : g < wr.heap.size := Nat.lt_of_lt_of_le hg HB.out.size
      have hgr' : g' < wr.heap.size := Nat.lt_of_lt_of_le hg' HB.out.size
      have hx : ∀ o, o < 10 → wr.cell? ⟨g, k * 10 + o, none⟩ = some (ckC (atC L k) o) := fun o ho => by rw [(bcell HB.out).1 _ _ hg]; exact (hc k hlt o ho).1
      have hx' : ∀ o, o < 10 → wr.cell? ⟨g', k * 10 + o, none⟩ = some (ckC (atC L k) o) := fun o ho => by rw [(bcell HB.out).1 _ _ hg']; exact (hc' k hlt o ho).1
      have c0 : wr.cell? ⟨g, k * 10, none⟩ = some (.string (atC L k).na) := hx 0 (by omega)
      have d0 : wr.cell? ⟨g', k * 10, none⟩ = some (.string (atC L k).na) := hx' 0 (by omega)
      have c1 : wr.cell? ⟨g, k * 10 + 1, none⟩ = some (.string (atC L k).va) := hx 1 (by omega)
      have d1 : wr.cell? ⟨g', k * 10 + 1, none⟩ = some (.string (atC L k).va) := hx' 1 (by omega)
      have c2 : wr.cell? ⟨g, k * 10 + 2, none⟩ = some (.string (atC L k).ho) := hx 2 (by omega)
      have d2 : wr.cell? ⟨g', k * 10 + 2, none⟩ = some (.string (atC L k).ho) := hx' 2 (by omega)
      have c3 : wr.cell? ⟨g, k * 10 + 3, none⟩ = some (.bool (atC L k).al) := hx 3 (by omega)
      have d3 : wr.cell? ⟨g', k * 10 + 3, none⟩ = some (.bool (atC L k).al) := hx' 3 (by omega)
      have c4 : wr.cell? ⟨g, k * 10 + 4, none⟩ = some (.string (atC L k).pa) := hx 4 (by omega)
      have d4 : wr.cell? ⟨g', k * 10 + 4, none⟩ = some (.string (atC L k).pa) := hx' 4 (by omega)
      have c5 : wr.cell? ⟨g, k * 10 + 5, none⟩ = some (.bool (atC L k).se) := hx 5 (by omega)
      have d5 : wr.cell? ⟨g', k * 10 + 5, none⟩ = some (.bool (atC L k).se) := hx' 5 (by omega)
      have c6 : wr.cell? ⟨g, k * 10 + 6, none⟩ = some (.int .i64 (atC L k).mo) := hx 6 (by omega)
      have d6 : wr.cell? ⟨g', k * 10 + 6, none⟩ = some (.int .i64 (atC L k).mo) := hx' 6 (by omega)
      have c7 : wr.cell? ⟨g, k * 10 + 7, none⟩ = some (.string (atC L k).pt) := hx 7 (by omega)
      have d7 : wr.cell? ⟨g', k * 10 + 7, none⟩ = some (.string (atC L k).pt) := hx' 7 (by omega)
      have c8 : wr.cell? ⟨g, k * 10 + 8, none⟩ = some (.int .i64 (atC L k).un) := hx 8 (by omega)
      have d8 : wr.cell? ⟨g', k * 10 + 8, none⟩ = some (.int .i64 (atC L k).un) := hx' 8 (by omega)
      have c9 : wr.cell? ⟨g, k * 10 + 9, none⟩ = some (.int .i64 (atC L k).ma) := hx 9 (by omega)
      have d9 : wr.cell? ⟨g', k * 10 + 9, none⟩ = some (.int .i64 (atC L k).ma) := hx' 9 (by omega)
      have k0 : (0 : Int) ≤ k := by omega
      have k1 : (k : Int) < L.length := by omega
      clear hc hc' hx hx'
      have KE : Hid (∀ W, Calls Tryz.prog 105 #[.agg #[.string (atC L k).na, .string (atC L k).va, .string (atC L k).ho, .bool (atC L k).al, .string (atC L k).pa, .bool (atC L k).se, .int .i64 (atC L k).mo, .string (atC L k).pt, .int .i64 (atC L k).un, .int .i64 (atC L k).ma], .agg #[.string (atC L k).na, .string (atC L k).va, .string (atC L k).ho, .bool (atC L k).al, .string (atC L k).pa, .bool (atC L k).se, .int .i64 (atC L k).mo, .string (atC L k).pt, .int .i64 (atC L k).un, .int .i64 (atC L k).ma]] W fun e w' => e = .returned (.bool true) ∧ Below W.heap.size W w') := fun W => eqCookie_any (atC L k).na (atC L k).va (atC L k).ho (atC L k).al (atC L k).pa (atC L k).se (atC L k).mo (atC L k).pt (atC L k).un (atC L k).ma W
      generalize atC L k = y at *
      obtain ⟨na, va, ho, al, pa, se, mo, pt, un, ma⟩ := y
      dsimp only at *
      go_wp2_with fail
      go_region_held3 (fun w' => w'.cell? ⟨g, k * 10, none⟩ = some (.string na) ∧ w'.cell? ⟨g, k * 10 + 1, none⟩ = some (.string va) ∧ w'.cell? ⟨g, k * 10 + 2, none⟩ = some (.string ho) ∧ w'.cell? ⟨g, k * 10 + 3, none⟩ = some (.bool al) ∧ w'.cell? ⟨g, k * 10 + 4, none⟩ = some (.string pa) ∧ w'.cell? ⟨g, k * 10 + 5, none⟩ = some (.bool se) ∧ w'.cell? ⟨g, k * 10 + 6, none⟩ = some (.int .i64 mo) ∧ w'.cell? ⟨g, k * 10 + 7, none⟩ = some (.string pt) ∧ w'.cell? ⟨g, k * 10 + 8, none⟩ = some (.int .i64 un) ∧ w'.cell? ⟨g, k * 10 + 9, none⟩ = some (.int .i64 ma) ∧ w'.cell? ⟨g', k * 10, none⟩ = some (.string na) ∧ w'.cell? ⟨g', k * 10 + 1, none⟩ = some (.string va) ∧ w'.cell? ⟨g', k * 10 + 2, none⟩ = some (.string ho) ∧ w'.cell? ⟨g', k * 10 + 3, none⟩ = some (.bool al) ∧ w'.cell? ⟨g', k * 10 + 4, none⟩ = some (.string pa) ∧ w'.cell? ⟨g', k * 10 + 5, none⟩ = some (.bool se) ∧ w'.cell? ⟨g', k * 10 + 6, none⟩ = some (.int .i64 mo) ∧ w'.cell? ⟨g', k * 10 + 7, none⟩ = some (.string pt) ∧ w'.cell? ⟨g', k * 10 + 8, none⟩ = some (.int .i64 un) ∧ w'.cell? ⟨g', k * 10 + 9, none⟩ = some (.int .i64 ma)) (go_keep)
        (first | (go_at_call 105; refine (KE.out _).mono ?_; rintro e w2 ⟨rfl, hb2⟩; have A2 : Below wr.heap.size wr w2 := (Below.drew (Below.refl _ _)).trans hb2; have l0 : w2.cell? ⟨g, k * 10, none⟩ = some (.string na) := ((bcell A2).1 _ _ hgr).trans c0; have m0 : w2.cell? ⟨g', k * 10, none⟩ = some (.string na) := ((bcell A2).1 _ _ hgr').trans d0; have l1 : w2.cell? ⟨g, k * 10 + 1, none⟩ = some (.string va) := ((bcell A2).1 _ _ hgr).trans c1; have m1 : w2.cell? ⟨g', k * 10 + 1, none⟩ = some (.string va) := ((bcell A2).1 _ _ hgr').trans d1; have l2 : w2.cell? ⟨g, k * 10 + 2, none⟩ = some (.string ho) := ((bcell A2).1 _ _ hgr).trans c2; have m2 : w2.cell? ⟨g', k * 10 + 2, none⟩ = some (.string ho) := ((bcell A2).1 _ _ hgr').trans d2; have l3 : w2.cell? ⟨g, k * 10 + 3, none⟩ = some (.bool al) := ((bcell A2).1 _ _ hgr).trans c3; have m3 : w2.cell? ⟨g', k * 10 + 3, none⟩ = some (.bool al) := ((bcell A2).1 _ _ hgr').trans d3; have l4 : w2.cell? ⟨g, k * 10 + 4, none⟩ = some (.string pa) := ((bcell A2).1 _ _ hgr).trans c4; have m4 : w2.cell? ⟨g', k * 10 + 4, none⟩ = some (.string pa) := ((bcell A2).1 _ _ hgr').trans d4; have l5 : w2.cell? ⟨g, k * 10 + 5, none⟩ = some (.bool se) := ((bcell A2).1 _ _ hgr).trans c5; have m5 : w2.cell? ⟨g', k * 10 + 5, none⟩ = some (.bool se) := ((bcell A2).1 _ _ hgr').trans d5; have l6 : w2.cell? ⟨g, k * 10 + 6, none⟩ = some (.int .i64 mo) := ((bcell A2).1 _ _ hgr).trans c6; have m6 : w2.cell? ⟨g', k * 10 + 6, none⟩ = some (.int .i64 mo) := ((bcell A2).1 _ _ hgr').trans d6; have l7 : w2.cell? ⟨g, k * 10 + 7, none⟩ = some (.string pt) := ((bcell A2).1 _ _ hgr).trans c7; have m7 : w2.cell? ⟨g', k * 10 + 7, none⟩ = some (.string pt) := ((bcell A2).1 _ _ hgr').trans d7; have l8 : w2.cell? ⟨g, k * 10 + 8, none⟩ = some (.int .i64 un) := ((bcell A2).1 _ _ hgr).trans c8; have m8 : w2.cell? ⟨g', k * 10 + 8, none⟩ = some (.int .i64 un) := ((bcell A2).1 _ _ hgr').trans d8; have l9 : w2.cell? ⟨g, k * 10 + 9, none⟩ = some (.int .i64 ma) := ((bcell A2).1 _ _ hgr).trans c9; have m9 : w2.cell? ⟨g', k * 10 + 9, none⟩ = some (.int .i64 ma) := ((bcell A2).1 _ _ hgr').trans d9))
      all_goals go_wp2
      all_goals go_roundw
      case rel => exact ⟨k + 1, by omega, by go_num, HB.out.trans (A2.mono HB.out.size)⟩
      case measure => simp [intOf]; omega
    · go_wp2
      go_ret
      exact ⟨rfl, HB.out⟩
end Go.Proofs.YtaccgciopmclhaaGreatDoor

/- The walk of the specification's UrlText. -/
namespace Go.Proofs.YtaccgciopmclhaaGreatDoor
open Go.RowKit

/-- the text of a right url, else the empty one -/
def urlT (sc ho pa : ByteArray) (po : Int) : ByteArray := if urlB sc ho pa po = true then placeT sc ho po ++ pa else ⟨#[]⟩
theorem schemeB_size {t : ByteArray} (h : schemeB t = true) : t.size ≤ 5 := by
  have hl : t.size = t.toList.length := by rw [ByteArray.toList_eq]; rfl
  unfold schemeB at h
  rw [Bool.or_eq_true, beq_iff_eq, beq_iff_eq] at h
  rcases h with h | h <;> rw [hl, h] <;> decide
theorem urlB_parts {sc ho pa : ByteArray} {po : Int} (h : urlB sc ho pa po = true) : sc.size ≤ 5 ∧ ho.size ≤ 100 ∧ 1 ≤ po ∧ po ≤ 65535 ∧ pa.size ≤ 40 := by
  unfold urlB placeB at h
  simp only [Bool.and_eq_true, decide_eq_true_eq] at h
  obtain ⟨⟨⟨h1, h2⟩, h3, h4⟩, h5⟩ := h
  refine ⟨schemeB_size h1, ?_, h3, h4, ?_⟩
  · by_cases hz : 100 < ho.size
    · rw [hostB_size hz] at h2; cases h2
    · omega
  · by_cases hz : 40 < pa.size
    · rw [pathB_size (.inr hz)] at h5; cases h5
    · omega
theorem placeT_size {sc ho : ByteArray} {po : Int} (h1 : sc.size ≤ 5) (h2 : ho.size ≤ 100) (h3 : 1 ≤ po) (h4 : po ≤ 65535) : (placeT sc ho po).size ≤ 200 := by
  have hd := decB_size (n := po) (by omega) (by omega)
  have e1 : (⟨#[58, 47, 47]⟩ : ByteArray).size = 3 := rfl
  have e2 : (⟨#[58]⟩ : ByteArray).size = 1 := rfl
  unfold placeT
  split
  · rw [ByteArray.size_append, ByteArray.size_append]; omega
  · rw [ByteArray.size_append, ByteArray.size_append, ByteArray.size_append, ByteArray.size_append]; omega

end Go.Proofs.YtaccgciopmclhaaGreatDoor

/- What the laws over a Url do besides their two calls: its size is looked at, and it is handed on field by field. -/
namespace Go.Proofs.YtaccgciopmclhaaGreatDoor
open Go.RowKit

set_option maxRecDepth 10000 in
set_option maxHeartbeats 400000 in
theorem szUrl_any (sc ho pa : ByteArray) (po : Int) (w : World) (h1 : sc.size ≤ maxLen) (h2 : ho.size ≤ maxLen) (h3 : pa.size ≤ maxLen) :
    Calls Tryz.prog 122 #[urlV sc ho pa po, .int .i64 1048576] w fun e w' => (∃ r : Int, e = .returned (.int .i64 r) ∧ (r < 0 ∨ (0 ≤ r ∧ sc.size + ho.size + pa.size ≤ 1048576))) ∧ Below w.heap.size w w' := by
  unfold maxLen at h1 h2 h3
  unfold urlV
  by_cases c1 : 1048576 < sc.size
  · have q1 : (1048576 : Int) - (sc.size : Int) < 0 := by omega
    go_enter Tryz.func122, Tryz.ntmps122
    go_wp2
    go_ret
    exact ⟨⟨-1, rfl, .inl (by omega)⟩, (Below.refl _ _).alloc (Nat.le_refl _) _⟩
  have q1 : decide ((1048576 : Int) - (sc.size : Int) < 0) = false := by rw [decide_eq_false_iff_not]; omega
  by_cases c2 : 1048576 < sc.size + ho.size
  · have q2 : (1048576 : Int) - (sc.size : Int) - (ho.size : Int) < 0 := by omega
    go_enter Tryz.func122, Tryz.ntmps122
    go_wp2
    go_ret
    exact ⟨⟨-1, rfl, .inl (by omega)⟩, (Below.refl _ _).alloc (Nat.le_refl _) _⟩
  have q2 : decide ((1048576 : Int) - (sc.size : Int) - (ho.size : Int) < 0) = false := by rw [decide_eq_false_iff_not]; omega
  by_cases c3 : 1048576 < sc.size + ho.size + pa.size
  · have q3 : (1048576 : Int) - (sc.size : Int) - (ho.size : Int) - (pa.size : Int) < 0 := by omega
    go_enter Tryz.func122, Tryz.ntmps122
    go_wp2
    go_ret
    exact ⟨⟨-1, rfl, .inl (by omega)⟩, (Below.refl _ _).alloc (Nat.le_refl _) _⟩
  have q3 : decide ((1048576 : Int) - (sc.size : Int) - (ho.size : Int) - (pa.size : Int) < 0) = false := by rw [decide_eq_false_iff_not]; omega
  go_enter Tryz.func122, Tryz.ntmps122
  go_wp2
  go_ret
  exact ⟨⟨(1048576 : Int) - (sc.size : Int) - (ho.size : Int) - (pa.size : Int), rfl, .inr ⟨by omega, by omega⟩⟩, (Below.refl _ _).alloc (Nat.le_refl _) _⟩

set_option maxRecDepth 10000 in
set_option maxHeartbeats 400000 in
theorem toUrl_any (sc ho pa : ByteArray) (po : Int) (w : World) :
    Calls Tryz.prog 133 #[urlV sc ho pa po] w fun e w' => e = .returned (urlV sc ho pa po) ∧ Below w.heap.size w w' := by
  have HV : Hid (urlV sc ho pa po = .agg #[.string sc, .string ho, .int .i64 po, .string pa]) := rfl
  rw [HV.out]
  go_enter Tryz.func133, Tryz.ntmps133
  go_wp2
  exact bodyPost_ret (v := .agg #[.string sc, .string ho, .int .i64 po, .string pa]) (by simp [results, Tryz.results133, go_sem]) rfl ⟨rfl, (((Below.refl _ _).alloc (Nat.le_refl _) _).alloc (by simp) _).alloc (by simp; omega) _⟩
end Go.Proofs.YtaccgciopmclhaaGreatDoor

/- The size of a Url against what is left; texts' sizes. -/
namespace Go.Proofs.YtaccgciopmclhaaGreatDoor
open Go.RowKit

set_option maxRecDepth 10000 in
set_option maxHeartbeats 400000 in
theorem szUrl_at (sc ho pa : ByteArray) (po l : Int) (w : World) (h1 : sc.size ≤ maxLen) (h2 : ho.size ≤ maxLen) (h3 : pa.size ≤ maxLen) (l0 : 0 ≤ l) (l1 : l ≤ 1048576) :
    Calls Tryz.prog 122 #[.agg #[.string sc, .string ho, .int .i64 po, .string pa], .int .i64 l] w fun e w' => (∃ r : Int, e = .returned (.int .i64 r) ∧ (r < 0 ∨ (0 ≤ r ∧ r ≤ 1048576 ∧ sc.size + ho.size + pa.size ≤ 1048576))) ∧ Below w.heap.size w w' := by
  unfold maxLen at h1 h2 h3
  by_cases c1 : l < sc.size
  · have q1 : l - (sc.size : Int) < 0 := by omega
    go_enter Tryz.func122, Tryz.ntmps122
    go_wp2
    go_ret
    exact ⟨⟨-1, rfl, .inl (by omega)⟩, (Below.refl _ _).alloc (Nat.le_refl _) _⟩
  have q1 : decide (l - (sc.size : Int) < 0) = false := by rw [decide_eq_false_iff_not]; omega
  by_cases c2 : l < sc.size + ho.size
  · have q2 : l - (sc.size : Int) - (ho.size : Int) < 0 := by omega
    go_enter Tryz.func122, Tryz.ntmps122
    go_wp2
    go_ret
    exact ⟨⟨-1, rfl, .inl (by omega)⟩, (Below.refl _ _).alloc (Nat.le_refl _) _⟩
  have q2 : decide (l - (sc.size : Int) - (ho.size : Int) < 0) = false := by rw [decide_eq_false_iff_not]; omega
  by_cases c3 : l < sc.size + ho.size + pa.size
  · have q3 : l - (sc.size : Int) - (ho.size : Int) - (pa.size : Int) < 0 := by omega
    go_enter Tryz.func122, Tryz.ntmps122
    go_wp2
    go_ret
    exact ⟨⟨-1, rfl, .inl (by omega)⟩, (Below.refl _ _).alloc (Nat.le_refl _) _⟩
  have q3 : decide (l - (sc.size : Int) - (ho.size : Int) - (pa.size : Int) < 0) = false := by rw [decide_eq_false_iff_not]; omega
  go_enter Tryz.func122, Tryz.ntmps122
  go_wp2
  go_ret
  exact ⟨⟨l - (sc.size : Int) - (ho.size : Int) - (pa.size : Int), rfl, .inr ⟨by omega, by omega, by omega⟩⟩, (Below.refl _ _).alloc (Nat.le_refl _) _⟩
end Go.Proofs.YtaccgciopmclhaaGreatDoor

/- What the laws do with a Frame besides their calls: its size is looked at, it is handed on field by field, two are held against each other. -/
namespace Go.Proofs.YtaccgciopmclhaaGreatDoor
open Go.RowKit

theorem cell_under9 (w : World) (o : Obj) (b k : Nat) (h : b < w.heap.size) : (w.alloc o).cell? ⟨b, k, none⟩ = w.cell? ⟨b, k, none⟩ := (bcell ((Below.refl _ w).alloc (Nat.le_refl _) o)).1 _ _ h
theorem frozen_under9 (w : World) (o : Obj) (b k : Nat) (h : b < w.heap.size) : (w.alloc o).frozen? ⟨b, k, none⟩ = w.frozen? ⟨b, k, none⟩ := (bcell ((Below.refl _ w).alloc (Nat.le_refl _) o)).2 _ _ h
set_option maxRecDepth 10000 in
set_option maxHeartbeats 1000000 in
theorem eqUrl9_any (x0 : ByteArray) (x1 : ByteArray) (x2 : Int) (x3 : ByteArray) (w : World) :
    Calls Tryz.prog 151 #[.agg #[.string x0, .string x1, .int .i64 x2, .string x3], .agg #[.string x0, .string x1, .int .i64 x2, .string x3]] w fun e w' => e = .returned (.bool true) ∧ Below w.heap.size w w' := by
  go_enter Tryz.func151, Tryz.ntmps151
  go_wp2
  go_ret
  exact ⟨rfl, ((Below.refl _ _).alloc (Nat.le_refl _) _).alloc (by simp) _⟩
set_option maxRecDepth 10000 in
set_option maxHeartbeats 1000000 in
theorem szFrame_at (x0 x1 : Int) (x2 x3 : ByteArray) (x4 : Int) (x5 : ByteArray) (x6 x7 : Bool) (x8 : Int) (l : Int) (w : World) (h2 : x2.size ≤ maxLen) (h3 : x3.size ≤ maxLen) (h5 : x5.size ≤ maxLen) (l0 : 0 ≤ l) (l1 : l ≤ 1048576) :
    Calls Tryz.prog 69 #[.agg #[.int .i64 x0, .int .i64 x1, .string x2, .string x3, .int .i64 x4, .string x5, .bool x6, .bool x7, .int .i64 x8], .int .i64 l] w fun e w' => (∃ r : Int, e = .returned (.int .i64 r) ∧ (r < 0 ∨ (0 ≤ r ∧ r ≤ 1048576 ∧ x2.size + x3.size + x5.size ≤ 1048576))) ∧ Below w.heap.size w w' := by
  have KZ : Hid (∀ W, Calls Tryz.prog 122 #[.agg #[.string x2, .string x3, .int .i64 x4, .string x5], .int .i64 l] W fun e w' => (∃ r : Int, e = .returned (.int .i64 r) ∧ (r < 0 ∨ (0 ≤ r ∧ r ≤ 1048576 ∧ x2.size + x3.size + x5.size ≤ 1048576))) ∧ Below W.heap.size W w') := fun W => szUrl_at x2 x3 x5 x4 l W h2 h3 h5 l0 l1
  clear h2 h3 h5
  go_enter Tryz.func69, Tryz.ntmps69
  go_wp2_with fail
  refine (KZ.out _).mono ?_
  rintro e w1 ⟨⟨r, rfl, hr⟩, hb1⟩
  have B1 : Hid (Below w.heap.size w w1) := (((Below.refl _ _).alloc (Nat.le_refl _) _).trans (hb1.mono (by simp)))
  clear hb1
  rcases hr with hr | ⟨r0, r1, hsum⟩
  · have q2 : decide (r < 0) = true := by rw [decide_eq_true_iff]; exact hr
    go_wp2
    go_ret
    exact ⟨⟨_, rfl, .inl (by decide)⟩, B1.out⟩
  · have q2 : decide (r < 0) = false := by rw [decide_eq_false_iff_not]; omega
    go_wp2
    go_ret
    exact ⟨⟨_, rfl, .inr ⟨r0, r1, hsum⟩⟩, B1.out⟩
set_option maxRecDepth 10000 in
set_option maxHeartbeats 1000000 in
theorem toFrame_any (x0 x1 : Int) (x2 x3 : ByteArray) (x4 : Int) (x5 : ByteArray) (x6 x7 : Bool) (x8 : Int) (w : World) :
    Calls Tryz.prog 86 #[.agg #[.int .i64 x0, .int .i64 x1, .string x2, .string x3, .int .i64 x4, .string x5, .bool x6, .bool x7, .int .i64 x8]] w fun e w' => e = .returned (.agg #[.int .i64 x0, .int .i64 x1, .string x2, .string x3, .int .i64 x4, .string x5, .bool x6, .bool x7, .int .i64 x8]) ∧ Below w.heap.size w w' := by
  have KT : Hid (∀ W, Calls Tryz.prog 133 #[.agg #[.string x2, .string x3, .int .i64 x4, .string x5]] W fun e w' => e = .returned (.agg #[.string x2, .string x3, .int .i64 x4, .string x5]) ∧ Below W.heap.size W w') := fun W => toUrl_any x2 x3 x5 x4 W
  go_enter Tryz.func86, Tryz.ntmps86
  go_wp2_with fail
  refine (KT.out _).mono ?_
  rintro e w1 ⟨rfl, hb1⟩
  obtain ⟨W2, hW2⟩ : ∃ W2, W2 = ((w.alloc (.cells #[.int .i64 x0, .int .i64 x1, .string x2, .string x3, .int .i64 x4, .string x5, .bool x6, .bool x7, .int .i64 x8] 109)).alloc (.cells #[.int .i64 0, .int .i64 0, .string ⟨#[]⟩, .string ⟨#[]⟩, .int .i64 0, .string ⟨#[]⟩, .bool false, .bool false, .int .i64 0] 99)) := ⟨_, rfl⟩
  rw [← hW2] at hb1
  have hs2 : W2.heap.size = w.heap.size + 1 + 1 := by rw [hW2]; simp
  have a6 : W2.cell? ⟨w.heap.size, 6, none⟩ = some (.bool x6) := by rw [hW2]; exact (cell_under9 _ _ _ _ (by simp)).trans (by simp)
  have a6 : w1.cell? ⟨w.heap.size, 6, none⟩ = some (.bool x6) := ((bcell hb1).1 _ _ (by simp; omega)).trans ((cell_under9 _ _ _ _ (by omega)).trans a6)
  have a7 : W2.cell? ⟨w.heap.size, 7, none⟩ = some (.bool x7) := by rw [hW2]; exact (cell_under9 _ _ _ _ (by simp)).trans (by simp)
  have a7 : w1.cell? ⟨w.heap.size, 7, none⟩ = some (.bool x7) := ((bcell hb1).1 _ _ (by simp; omega)).trans ((cell_under9 _ _ _ _ (by omega)).trans a7)
  have a8 : W2.cell? ⟨w.heap.size, 8, none⟩ = some (.int .i64 x8) := by rw [hW2]; exact (cell_under9 _ _ _ _ (by simp)).trans (by simp)
  have a8 : w1.cell? ⟨w.heap.size, 8, none⟩ = some (.int .i64 x8) := ((bcell hb1).1 _ _ (by simp; omega)).trans ((cell_under9 _ _ _ _ (by omega)).trans a8)
  have r0 : W2.cell? ⟨w.heap.size + 1, 0, none⟩ = some (.int .i64 0) := by rw [hW2]; exact (World.cell?_alloc_at _ _ _ _ (by simp)).trans rfl
  have r0 : w1.cell? ⟨w.heap.size + 1, 0, none⟩ = some (.int .i64 0) := ((bcell hb1).1 _ _ (by simp; omega)).trans ((cell_under9 _ _ _ _ (by omega)).trans r0)
  have s0 : W2.frozen? ⟨w.heap.size + 1, 0, none⟩ = false := by rw [hW2]; rw [show w.heap.size + 1 = (w.alloc (.cells #[.int .i64 x0, .int .i64 x1, .string x2, .string x3, .int .i64 x4, .string x5, .bool x6, .bool x7, .int .i64 x8] 109)).heap.size by simp]; simp
  have s0 : w1.frozen? ⟨w.heap.size + 1, 0, none⟩ = false := ((bcell hb1).2 _ _ (by simp; omega)).trans ((frozen_under9 _ _ _ _ (by omega)).trans s0)
  have r1 : W2.cell? ⟨w.heap.size + 1, 1, none⟩ = some (.int .i64 0) := by rw [hW2]; exact (World.cell?_alloc_at _ _ _ _ (by simp)).trans rfl
  have r1 : w1.cell? ⟨w.heap.size + 1, 1, none⟩ = some (.int .i64 0) := ((bcell hb1).1 _ _ (by simp; omega)).trans ((cell_under9 _ _ _ _ (by omega)).trans r1)
  have s1 : W2.frozen? ⟨w.heap.size + 1, 1, none⟩ = false := by rw [hW2]; rw [show w.heap.size + 1 = (w.alloc (.cells #[.int .i64 x0, .int .i64 x1, .string x2, .string x3, .int .i64 x4, .string x5, .bool x6, .bool x7, .int .i64 x8] 109)).heap.size by simp]; simp
  have s1 : w1.frozen? ⟨w.heap.size + 1, 1, none⟩ = false := ((bcell hb1).2 _ _ (by simp; omega)).trans ((frozen_under9 _ _ _ _ (by omega)).trans s1)
  have r2 : W2.cell? ⟨w.heap.size + 1, 2, none⟩ = some (.string ⟨#[]⟩) := by rw [hW2]; exact (World.cell?_alloc_at _ _ _ _ (by simp)).trans rfl
  have r2 : w1.cell? ⟨w.heap.size + 1, 2, none⟩ = some (.string ⟨#[]⟩) := ((bcell hb1).1 _ _ (by simp; omega)).trans ((cell_under9 _ _ _ _ (by omega)).trans r2)
  have s2 : W2.frozen? ⟨w.heap.size + 1, 2, none⟩ = false := by rw [hW2]; rw [show w.heap.size + 1 = (w.alloc (.cells #[.int .i64 x0, .int .i64 x1, .string x2, .string x3, .int .i64 x4, .string x5, .bool x6, .bool x7, .int .i64 x8] 109)).heap.size by simp]; simp
  have s2 : w1.frozen? ⟨w.heap.size + 1, 2, none⟩ = false := ((bcell hb1).2 _ _ (by simp; omega)).trans ((frozen_under9 _ _ _ _ (by omega)).trans s2)
  have r3 : W2.cell? ⟨w.heap.size + 1, 3, none⟩ = some (.string ⟨#[]⟩) := by rw [hW2]; exact (World.cell?_alloc_at _ _ _ _ (by simp)).trans rfl
  have r3 : w1.cell? ⟨w.heap.size + 1, 3, none⟩ = some (.string ⟨#[]⟩) := ((bcell hb1).1 _ _ (by simp; omega)).trans ((cell_under9 _ _ _ _ (by omega)).trans r3)
  have s3 : W2.frozen? ⟨w.heap.size + 1, 3, none⟩ = false := by rw [hW2]; rw [show w.heap.size + 1 = (w.alloc (.cells #[.int .i64 x0, .int .i64 x1, .string x2, .string x3, .int .i64 x4, .string x5, .bool x6, .bool x7, .int .i64 x8] 109)).heap.size by simp]; simp
  have s3 : w1.frozen? ⟨w.heap.size + 1, 3, none⟩ = false := ((bcell hb1).2 _ _ (by simp; omega)).trans ((frozen_under9 _ _ _ _ (by omega)).trans s3)
  have r4 : W2.cell? ⟨w.heap.size + 1, 4, none⟩ = some (.int .i64 0) := by rw [hW2]; exact (World.cell?_alloc_at _ _ _ _ (by simp)).trans rfl
  have r4 : w1.cell? ⟨w.heap.size + 1, 4, none⟩ = some (.int .i64 0) := ((bcell hb1).1 _ _ (by simp; omega)).trans ((cell_under9 _ _ _ _ (by omega)).trans r4)
  have s4 : W2.frozen? ⟨w.heap.size + 1, 4, none⟩ = false := by rw [hW2]; rw [show w.heap.size + 1 = (w.alloc (.cells #[.int .i64 x0, .int .i64 x1, .string x2, .string x3, .int .i64 x4, .string x5, .bool x6, .bool x7, .int .i64 x8] 109)).heap.size by simp]; simp
  have s4 : w1.frozen? ⟨w.heap.size + 1, 4, none⟩ = false := ((bcell hb1).2 _ _ (by simp; omega)).trans ((frozen_under9 _ _ _ _ (by omega)).trans s4)
  have r5 : W2.cell? ⟨w.heap.size + 1, 5, none⟩ = some (.string ⟨#[]⟩) := by rw [hW2]; exact (World.cell?_alloc_at _ _ _ _ (by simp)).trans rfl
  have r5 : w1.cell? ⟨w.heap.size + 1, 5, none⟩ = some (.string ⟨#[]⟩) := ((bcell hb1).1 _ _ (by simp; omega)).trans ((cell_under9 _ _ _ _ (by omega)).trans r5)
  have s5 : W2.frozen? ⟨w.heap.size + 1, 5, none⟩ = false := by rw [hW2]; rw [show w.heap.size + 1 = (w.alloc (.cells #[.int .i64 x0, .int .i64 x1, .string x2, .string x3, .int .i64 x4, .string x5, .bool x6, .bool x7, .int .i64 x8] 109)).heap.size by simp]; simp
  have s5 : w1.frozen? ⟨w.heap.size + 1, 5, none⟩ = false := ((bcell hb1).2 _ _ (by simp; omega)).trans ((frozen_under9 _ _ _ _ (by omega)).trans s5)
  have r6 : W2.cell? ⟨w.heap.size + 1, 6, none⟩ = some (.bool false) := by rw [hW2]; exact (World.cell?_alloc_at _ _ _ _ (by simp)).trans rfl
  have r6 : w1.cell? ⟨w.heap.size + 1, 6, none⟩ = some (.bool false) := ((bcell hb1).1 _ _ (by simp; omega)).trans ((cell_under9 _ _ _ _ (by omega)).trans r6)
  have s6 : W2.frozen? ⟨w.heap.size + 1, 6, none⟩ = false := by rw [hW2]; rw [show w.heap.size + 1 = (w.alloc (.cells #[.int .i64 x0, .int .i64 x1, .string x2, .string x3, .int .i64 x4, .string x5, .bool x6, .bool x7, .int .i64 x8] 109)).heap.size by simp]; simp
  have s6 : w1.frozen? ⟨w.heap.size + 1, 6, none⟩ = false := ((bcell hb1).2 _ _ (by simp; omega)).trans ((frozen_under9 _ _ _ _ (by omega)).trans s6)
  have r7 : W2.cell? ⟨w.heap.size + 1, 7, none⟩ = some (.bool false) := by rw [hW2]; exact (World.cell?_alloc_at _ _ _ _ (by simp)).trans rfl
  have r7 : w1.cell? ⟨w.heap.size + 1, 7, none⟩ = some (.bool false) := ((bcell hb1).1 _ _ (by simp; omega)).trans ((cell_under9 _ _ _ _ (by omega)).trans r7)
  have s7 : W2.frozen? ⟨w.heap.size + 1, 7, none⟩ = false := by rw [hW2]; rw [show w.heap.size + 1 = (w.alloc (.cells #[.int .i64 x0, .int .i64 x1, .string x2, .string x3, .int .i64 x4, .string x5, .bool x6, .bool x7, .int .i64 x8] 109)).heap.size by simp]; simp
  have s7 : w1.frozen? ⟨w.heap.size + 1, 7, none⟩ = false := ((bcell hb1).2 _ _ (by simp; omega)).trans ((frozen_under9 _ _ _ _ (by omega)).trans s7)
  have r8 : W2.cell? ⟨w.heap.size + 1, 8, none⟩ = some (.int .i64 0) := by rw [hW2]; exact (World.cell?_alloc_at _ _ _ _ (by simp)).trans rfl
  have r8 : w1.cell? ⟨w.heap.size + 1, 8, none⟩ = some (.int .i64 0) := ((bcell hb1).1 _ _ (by simp; omega)).trans ((cell_under9 _ _ _ _ (by omega)).trans r8)
  have s8 : W2.frozen? ⟨w.heap.size + 1, 8, none⟩ = false := by rw [hW2]; rw [show w.heap.size + 1 = (w.alloc (.cells #[.int .i64 x0, .int .i64 x1, .string x2, .string x3, .int .i64 x4, .string x5, .bool x6, .bool x7, .int .i64 x8] 109)).heap.size by simp]; simp
  have s8 : w1.frozen? ⟨w.heap.size + 1, 8, none⟩ = false := ((bcell hb1).2 _ _ (by simp; omega)).trans ((frozen_under9 _ _ _ _ (by omega)).trans s8)
  have o0 : w1.cell? ⟨w.heap.size + 1 + 1, 0, none⟩ = some (.int .i64 x0) := ((bcell hb1).1 _ _ (by simp; omega)).trans (by rw [← hs2]; simp)
  have p0 : w1.frozen? ⟨w.heap.size + 1 + 1, 0, none⟩ = false := ((bcell hb1).2 _ _ (by simp; omega)).trans (by rw [← hs2]; simp)
  have o1 : w1.cell? ⟨w.heap.size + 1 + 1, 1, none⟩ = some (.int .i64 x1) := ((bcell hb1).1 _ _ (by simp; omega)).trans (by rw [← hs2]; simp)
  have p1 : w1.frozen? ⟨w.heap.size + 1 + 1, 1, none⟩ = false := ((bcell hb1).2 _ _ (by simp; omega)).trans (by rw [← hs2]; simp)
  have o2 : w1.cell? ⟨w.heap.size + 1 + 1, 2, none⟩ = some (.string ⟨#[]⟩) := ((bcell hb1).1 _ _ (by simp; omega)).trans (by rw [← hs2]; simp)
  have p2 : w1.frozen? ⟨w.heap.size + 1 + 1, 2, none⟩ = false := ((bcell hb1).2 _ _ (by simp; omega)).trans (by rw [← hs2]; simp)
  have o3 : w1.cell? ⟨w.heap.size + 1 + 1, 3, none⟩ = some (.string ⟨#[]⟩) := ((bcell hb1).1 _ _ (by simp; omega)).trans (by rw [← hs2]; simp)
  have p3 : w1.frozen? ⟨w.heap.size + 1 + 1, 3, none⟩ = false := ((bcell hb1).2 _ _ (by simp; omega)).trans (by rw [← hs2]; simp)
  have o4 : w1.cell? ⟨w.heap.size + 1 + 1, 4, none⟩ = some (.int .i64 0) := ((bcell hb1).1 _ _ (by simp; omega)).trans (by rw [← hs2]; simp)
  have p4 : w1.frozen? ⟨w.heap.size + 1 + 1, 4, none⟩ = false := ((bcell hb1).2 _ _ (by simp; omega)).trans (by rw [← hs2]; simp)
  have o5 : w1.cell? ⟨w.heap.size + 1 + 1, 5, none⟩ = some (.string ⟨#[]⟩) := ((bcell hb1).1 _ _ (by simp; omega)).trans (by rw [← hs2]; simp)
  have p5 : w1.frozen? ⟨w.heap.size + 1 + 1, 5, none⟩ = false := ((bcell hb1).2 _ _ (by simp; omega)).trans (by rw [← hs2]; simp)
  have o6 : w1.cell? ⟨w.heap.size + 1 + 1, 6, none⟩ = some (.bool false) := ((bcell hb1).1 _ _ (by simp; omega)).trans (by rw [← hs2]; simp)
  have p6 : w1.frozen? ⟨w.heap.size + 1 + 1, 6, none⟩ = false := ((bcell hb1).2 _ _ (by simp; omega)).trans (by rw [← hs2]; simp)
  have o7 : w1.cell? ⟨w.heap.size + 1 + 1, 7, none⟩ = some (.bool false) := ((bcell hb1).1 _ _ (by simp; omega)).trans (by rw [← hs2]; simp)
  have p7 : w1.frozen? ⟨w.heap.size + 1 + 1, 7, none⟩ = false := ((bcell hb1).2 _ _ (by simp; omega)).trans (by rw [← hs2]; simp)
  have o8 : w1.cell? ⟨w.heap.size + 1 + 1, 8, none⟩ = some (.int .i64 0) := ((bcell hb1).1 _ _ (by simp; omega)).trans (by rw [← hs2]; simp)
  have p8 : w1.frozen? ⟨w.heap.size + 1 + 1, 8, none⟩ = false := ((bcell hb1).2 _ _ (by simp; omega)).trans (by rw [← hs2]; simp)
  have B2 : Below w.heap.size w W2 := by rw [hW2]; exact ((Below.refl _ _).alloc (Nat.le_refl _) _).alloc (by simp) _
  have B1 : Hid (Below w.heap.size w w1) := (B2.alloc B2.size _).trans (hb1.mono (by simp; omega))
  clear hb1 hW2 hs2 B2
  go_wp2
  obtain ⟨Wz, hz⟩ : ∃ Wz, Wz = ((((((((((((((((w1.setCell ⟨w.heap.size + 1 + 1, 2, none⟩ (.string x2)).setCell ⟨w.heap.size + 1 + 1, 3, none⟩ (.string x3)).setCell ⟨w.heap.size + 1 + 1, 4, none⟩ (.int .i64 x4)).setCell ⟨w.heap.size + 1 + 1, 5, none⟩ (.string x5)).setCell ⟨w.heap.size + 1 + 1, 6, none⟩ (.bool x6)).setCell ⟨w.heap.size + 1 + 1, 7, none⟩ (.bool x7)).setCell ⟨w.heap.size + 1 + 1, 8, none⟩ (.int .i64 x8)).setCell ⟨w.heap.size + 1, 0, none⟩ (.int .i64 x0)).setCell ⟨w.heap.size + 1, 1, none⟩ (.int .i64 x1)).setCell ⟨w.heap.size + 1, 2, none⟩ (.string x2)).setCell ⟨w.heap.size + 1, 3, none⟩ (.string x3)).setCell ⟨w.heap.size + 1, 4, none⟩ (.int .i64 x4)).setCell ⟨w.heap.size + 1, 5, none⟩ (.string x5)).setCell ⟨w.heap.size + 1, 6, none⟩ (.bool x6)).setCell ⟨w.heap.size + 1, 7, none⟩ (.bool x7)).setCell ⟨w.heap.size + 1, 8, none⟩ (.int .i64 x8)) := ⟨_, rfl⟩
  rw [← hz]
  have BZ : Hid (Below w.heap.size w Wz) := by show Below _ _ _; rw [hz]; exact ((((((((((((((((B1.out.setCell (p := ⟨w.heap.size + 1 + 1, 2, none⟩) (show w.heap.size ≤ w.heap.size + 1 + 1 from by omega) _).setCell (p := ⟨w.heap.size + 1 + 1, 3, none⟩) (show w.heap.size ≤ w.heap.size + 1 + 1 from by omega) _).setCell (p := ⟨w.heap.size + 1 + 1, 4, none⟩) (show w.heap.size ≤ w.heap.size + 1 + 1 from by omega) _).setCell (p := ⟨w.heap.size + 1 + 1, 5, none⟩) (show w.heap.size ≤ w.heap.size + 1 + 1 from by omega) _).setCell (p := ⟨w.heap.size + 1 + 1, 6, none⟩) (show w.heap.size ≤ w.heap.size + 1 + 1 from by omega) _).setCell (p := ⟨w.heap.size + 1 + 1, 7, none⟩) (show w.heap.size ≤ w.heap.size + 1 + 1 from by omega) _).setCell (p := ⟨w.heap.size + 1 + 1, 8, none⟩) (show w.heap.size ≤ w.heap.size + 1 + 1 from by omega) _).setCell (p := ⟨w.heap.size + 1, 0, none⟩) (show w.heap.size ≤ w.heap.size + 1 from by omega) _).setCell (p := ⟨w.heap.size + 1, 1, none⟩) (show w.heap.size ≤ w.heap.size + 1 from by omega) _).setCell (p := ⟨w.heap.size + 1, 2, none⟩) (show w.heap.size ≤ w.heap.size + 1 from by omega) _).setCell (p := ⟨w.heap.size + 1, 3, none⟩) (show w.heap.size ≤ w.heap.size + 1 from by omega) _).setCell (p := ⟨w.heap.size + 1, 4, none⟩) (show w.heap.size ≤ w.heap.size + 1 from by omega) _).setCell (p := ⟨w.heap.size + 1, 5, none⟩) (show w.heap.size ≤ w.heap.size + 1 from by omega) _).setCell (p := ⟨w.heap.size + 1, 6, none⟩) (show w.heap.size ≤ w.heap.size + 1 from by omega) _).setCell (p := ⟨w.heap.size + 1, 7, none⟩) (show w.heap.size ≤ w.heap.size + 1 from by omega) _).setCell (p := ⟨w.heap.size + 1, 8, none⟩) (show w.heap.size ≤ w.heap.size + 1 from by omega) _)
  have q0 : Wz.cell? ⟨w.heap.size + 1, 0, none⟩ = some (.int .i64 x0) := by rw [hz]; rw [World.cell?_setCell_other _ _ _ _ (by simp)]; rw [World.cell?_setCell_other _ _ _ _ (by simp)]; rw [World.cell?_setCell_other _ _ _ _ (by simp)]; rw [World.cell?_setCell_other _ _ _ _ (by simp)]; rw [World.cell?_setCell_other _ _ _ _ (by simp)]; rw [World.cell?_setCell_other _ _ _ _ (by simp)]; rw [World.cell?_setCell_other _ _ _ _ (by simp)]; rw [World.cell?_setCell_other _ _ _ _ (by simp)]; refine World.cell?_setCell_same' _ _ _ ?_; rw [World.cell?_setCell_other _ _ _ _ (by simp)]; rw [World.cell?_setCell_other _ _ _ _ (by simp)]; rw [World.cell?_setCell_other _ _ _ _ (by simp)]; rw [World.cell?_setCell_other _ _ _ _ (by simp)]; rw [World.cell?_setCell_other _ _ _ _ (by simp)]; rw [World.cell?_setCell_other _ _ _ _ (by simp)]; rw [World.cell?_setCell_other _ _ _ _ (by simp)]; rw [r0]; rfl
  have q1 : Wz.cell? ⟨w.heap.size + 1, 1, none⟩ = some (.int .i64 x1) := by rw [hz]; rw [World.cell?_setCell_other _ _ _ _ (by simp)]; rw [World.cell?_setCell_other _ _ _ _ (by simp)]; rw [World.cell?_setCell_other _ _ _ _ (by simp)]; rw [World.cell?_setCell_other _ _ _ _ (by simp)]; rw [World.cell?_setCell_other _ _ _ _ (by simp)]; rw [World.cell?_setCell_other _ _ _ _ (by simp)]; rw [World.cell?_setCell_other _ _ _ _ (by simp)]; refine World.cell?_setCell_same' _ _ _ ?_; rw [World.cell?_setCell_other _ _ _ _ (by simp)]; rw [World.cell?_setCell_other _ _ _ _ (by simp)]; rw [World.cell?_setCell_other _ _ _ _ (by simp)]; rw [World.cell?_setCell_other _ _ _ _ (by simp)]; rw [World.cell?_setCell_other _ _ _ _ (by simp)]; rw [World.cell?_setCell_other _ _ _ _ (by simp)]; rw [World.cell?_setCell_other _ _ _ _ (by simp)]; rw [World.cell?_setCell_other _ _ _ _ (by simp)]; rw [r1]; rfl
  have q2 : Wz.cell? ⟨w.heap.size + 1, 2, none⟩ = some (.string x2) := by rw [hz]; rw [World.cell?_setCell_other _ _ _ _ (by simp)]; rw [World.cell?_setCell_other _ _ _ _ (by simp)]; rw [World.cell?_setCell_other _ _ _ _ (by simp)]; rw [World.cell?_setCell_other _ _ _ _ (by simp)]; rw [World.cell?_setCell_other _ _ _ _ (by simp)]; rw [World.cell?_setCell_other _ _ _ _ (by simp)]; refine World.cell?_setCell_same' _ _ _ ?_; rw [World.cell?_setCell_other _ _ _ _ (by simp)]; rw [World.cell?_setCell_other _ _ _ _ (by simp)]; rw [World.cell?_setCell_other _ _ _ _ (by simp)]; rw [World.cell?_setCell_other _ _ _ _ (by simp)]; rw [World.cell?_setCell_other _ _ _ _ (by simp)]; rw [World.cell?_setCell_other _ _ _ _ (by simp)]; rw [World.cell?_setCell_other _ _ _ _ (by simp)]; rw [World.cell?_setCell_other _ _ _ _ (by simp)]; rw [World.cell?_setCell_other _ _ _ _ (by simp)]; rw [r2]; rfl
  have q3 : Wz.cell? ⟨w.heap.size + 1, 3, none⟩ = some (.string x3) := by rw [hz]; rw [World.cell?_setCell_other _ _ _ _ (by simp)]; rw [World.cell?_setCell_other _ _ _ _ (by simp)]; rw [World.cell?_setCell_other _ _ _ _ (by simp)]; rw [World.cell?_setCell_other _ _ _ _ (by simp)]; rw [World.cell?_setCell_other _ _ _ _ (by simp)]; refine World.cell?_setCell_same' _ _ _ ?_; rw [World.cell?_setCell_other _ _ _ _ (by simp)]; rw [World.cell?_setCell_other _ _ _ _ (by simp)]; rw [World.cell?_setCell_other _ _ _ _ (by simp)]; rw [World.cell?_setCell_other _ _ _ _ (by simp)]; rw [World.cell?_setCell_other _ _ _ _ (by simp)]; rw [World.cell?_setCell_other _ _ _ _ (by simp)]; rw [World.cell?_setCell_other _ _ _ _ (by simp)]; rw [World.cell?_setCell_other _ _ _ _ (by simp)]; rw [World.cell?_setCell_other _ _ _ _ (by simp)]; rw [World.cell?_setCell_other _ _ _ _ (by simp)]; rw [r3]; rfl
  have q4 : Wz.cell? ⟨w.heap.size + 1, 4, none⟩ = some (.int .i64 x4) := by rw [hz]; rw [World.cell?_setCell_other _ _ _ _ (by simp)]; rw [World.cell?_setCell_other _ _ _ _ (by simp)]; rw [World.cell?_setCell_other _ _ _ _ (by simp)]; rw [World.cell?_setCell_other _ _ _ _ (by simp)]; refine World.cell?_setCell_same' _ _ _ ?_; rw [World.cell?_setCell_other _ _ _ _ (by simp)]; rw [World.cell?_setCell_other _ _ _ _ (by simp)]; rw [World.cell?_setCell_other _ _ _ _ (by simp)]; rw [World.cell?_setCell_other _ _ _ _ (by simp)]; rw [World.cell?_setCell_other _ _ _ _ (by simp)]; rw [World.cell?_setCell_other _ _ _ _ (by simp)]; rw [World.cell?_setCell_other _ _ _ _ (by simp)]; rw [World.cell?_setCell_other _ _ _ _ (by simp)]; rw [World.cell?_setCell_other _ _ _ _ (by simp)]; rw [World.cell?_setCell_other _ _ _ _ (by simp)]; rw [World.cell?_setCell_other _ _ _ _ (by simp)]; rw [r4]; rfl
  have q5 : Wz.cell? ⟨w.heap.size + 1, 5, none⟩ = some (.string x5) := by rw [hz]; rw [World.cell?_setCell_other _ _ _ _ (by simp)]; rw [World.cell?_setCell_other _ _ _ _ (by simp)]; rw [World.cell?_setCell_other _ _ _ _ (by simp)]; refine World.cell?_setCell_same' _ _ _ ?_; rw [World.cell?_setCell_other _ _ _ _ (by simp)]; rw [World.cell?_setCell_other _ _ _ _ (by simp)]; rw [World.cell?_setCell_other _ _ _ _ (by simp)]; rw [World.cell?_setCell_other _ _ _ _ (by simp)]; rw [World.cell?_setCell_other _ _ _ _ (by simp)]; rw [World.cell?_setCell_other _ _ _ _ (by simp)]; rw [World.cell?_setCell_other _ _ _ _ (by simp)]; rw [World.cell?_setCell_other _ _ _ _ (by simp)]; rw [World.cell?_setCell_other _ _ _ _ (by simp)]; rw [World.cell?_setCell_other _ _ _ _ (by simp)]; rw [World.cell?_setCell_other _ _ _ _ (by simp)]; rw [World.cell?_setCell_other _ _ _ _ (by simp)]; rw [r5]; rfl
  have q6 : Wz.cell? ⟨w.heap.size + 1, 6, none⟩ = some (.bool x6) := by rw [hz]; rw [World.cell?_setCell_other _ _ _ _ (by simp)]; rw [World.cell?_setCell_other _ _ _ _ (by simp)]; refine World.cell?_setCell_same' _ _ _ ?_; rw [World.cell?_setCell_other _ _ _ _ (by simp)]; rw [World.cell?_setCell_other _ _ _ _ (by simp)]; rw [World.cell?_setCell_other _ _ _ _ (by simp)]; rw [World.cell?_setCell_other _ _ _ _ (by simp)]; rw [World.cell?_setCell_other _ _ _ _ (by simp)]; rw [World.cell?_setCell_other _ _ _ _ (by simp)]; rw [World.cell?_setCell_other _ _ _ _ (by simp)]; rw [World.cell?_setCell_other _ _ _ _ (by simp)]; rw [World.cell?_setCell_other _ _ _ _ (by simp)]; rw [World.cell?_setCell_other _ _ _ _ (by simp)]; rw [World.cell?_setCell_other _ _ _ _ (by simp)]; rw [World.cell?_setCell_other _ _ _ _ (by simp)]; rw [World.cell?_setCell_other _ _ _ _ (by simp)]; rw [r6]; rfl
  have q7 : Wz.cell? ⟨w.heap.size + 1, 7, none⟩ = some (.bool x7) := by rw [hz]; rw [World.cell?_setCell_other _ _ _ _ (by simp)]; refine World.cell?_setCell_same' _ _ _ ?_; rw [World.cell?_setCell_other _ _ _ _ (by simp)]; rw [World.cell?_setCell_other _ _ _ _ (by simp)]; rw [World.cell?_setCell_other _ _ _ _ (by simp)]; rw [World.cell?_setCell_other _ _ _ _ (by simp)]; rw [World.cell?_setCell_other _ _ _ _ (by simp)]; rw [World.cell?_setCell_other _ _ _ _ (by simp)]; rw [World.cell?_setCell_other _ _ _ _ (by simp)]; rw [World.cell?_setCell_other _ _ _ _ (by simp)]; rw [World.cell?_setCell_other _ _ _ _ (by simp)]; rw [World.cell?_setCell_other _ _ _ _ (by simp)]; rw [World.cell?_setCell_other _ _ _ _ (by simp)]; rw [World.cell?_setCell_other _ _ _ _ (by simp)]; rw [World.cell?_setCell_other _ _ _ _ (by simp)]; rw [World.cell?_setCell_other _ _ _ _ (by simp)]; rw [r7]; rfl
  have q8 : Wz.cell? ⟨w.heap.size + 1, 8, none⟩ = some (.int .i64 x8) := by rw [hz]; refine World.cell?_setCell_same' _ _ _ ?_; rw [World.cell?_setCell_other _ _ _ _ (by simp)]; rw [World.cell?_setCell_other _ _ _ _ (by simp)]; rw [World.cell?_setCell_other _ _ _ _ (by simp)]; rw [World.cell?_setCell_other _ _ _ _ (by simp)]; rw [World.cell?_setCell_other _ _ _ _ (by simp)]; rw [World.cell?_setCell_other _ _ _ _ (by simp)]; rw [World.cell?_setCell_other _ _ _ _ (by simp)]; rw [World.cell?_setCell_other _ _ _ _ (by simp)]; rw [World.cell?_setCell_other _ _ _ _ (by simp)]; rw [World.cell?_setCell_other _ _ _ _ (by simp)]; rw [World.cell?_setCell_other _ _ _ _ (by simp)]; rw [World.cell?_setCell_other _ _ _ _ (by simp)]; rw [World.cell?_setCell_other _ _ _ _ (by simp)]; rw [World.cell?_setCell_other _ _ _ _ (by simp)]; rw [World.cell?_setCell_other _ _ _ _ (by simp)]; rw [r8]; rfl
  clear hz r0 r1 r2 r3 r4 r5 r6 r7 r8 s0 s1 s2 s3 s4 s5 s6 s7 s8 o0 o1 o2 o3 o4 o5 o6 o7 o8 p0 p1 p2 p3 p4 p5 p6 p7 p8 a6 a7 a8 B1 KT
  exact bodyPost_ret (v := .agg #[.int .i64 x0, .int .i64 x1, .string x2, .string x3, .int .i64 x4, .string x5, .bool x6, .bool x7, .int .i64 x8]) (by simp [results, Tryz.results86, go_sem, q0, q1, q2, q3, q4, q5, q6, q7, q8]) rfl ⟨rfl, BZ.out⟩
set_option maxRecDepth 10000 in
set_option maxHeartbeats 1000000 in
theorem eqFrame_any (x0 x1 : Int) (x2 x3 : ByteArray) (x4 : Int) (x5 : ByteArray) (x6 x7 : Bool) (x8 : Int) (w : World) :
    Calls Tryz.prog 104 #[.agg #[.int .i64 x0, .int .i64 x1, .string x2, .string x3, .int .i64 x4, .string x5, .bool x6, .bool x7, .int .i64 x8], .agg #[.int .i64 x0, .int .i64 x1, .string x2, .string x3, .int .i64 x4, .string x5, .bool x6, .bool x7, .int .i64 x8]] w fun e w' => e = .returned (.bool true) ∧ Below w.heap.size w w' := by
  have KE : Hid (∀ W, Calls Tryz.prog 151 #[.agg #[.string x2, .string x3, .int .i64 x4, .string x5], .agg #[.string x2, .string x3, .int .i64 x4, .string x5]] W fun e w' => e = .returned (.bool true) ∧ Below W.heap.size W w') := fun W => eqUrl9_any x2 x3 x4 x5 W
  go_enter Tryz.func104, Tryz.ntmps104
  go_wp2_with fail
  refine (KE.out _).mono ?_
  rintro e w1 ⟨rfl, hb1⟩
  obtain ⟨W2, hW2⟩ : ∃ W2, W2 = ((w.alloc (.cells #[.int .i64 x0, .int .i64 x1, .string x2, .string x3, .int .i64 x4, .string x5, .bool x6, .bool x7, .int .i64 x8] 99)).alloc (.cells #[.int .i64 x0, .int .i64 x1, .string x2, .string x3, .int .i64 x4, .string x5, .bool x6, .bool x7, .int .i64 x8] 99)) := ⟨_, rfl⟩
  rw [← hW2] at hb1
  have hs2 : W2.heap.size = w.heap.size + 1 + 1 := by rw [hW2]; simp
  have a6 : W2.cell? ⟨w.heap.size, 6, none⟩ = some (.bool x6) := by rw [hW2]; exact (cell_under9 _ _ _ _ (by simp)).trans (by simp)
  have b6 : W2.cell? ⟨w.heap.size + 1, 6, none⟩ = some (.bool x6) := by rw [hW2]; exact (World.cell?_alloc_at _ _ _ _ (by simp)).trans rfl
  have a6 : w1.cell? ⟨w.heap.size, 6, none⟩ = some (.bool x6) := ((bcell hb1).1 _ _ (by omega)).trans a6
  have b6 : w1.cell? ⟨w.heap.size + 1, 6, none⟩ = some (.bool x6) := ((bcell hb1).1 _ _ (by omega)).trans b6
  have a7 : W2.cell? ⟨w.heap.size, 7, none⟩ = some (.bool x7) := by rw [hW2]; exact (cell_under9 _ _ _ _ (by simp)).trans (by simp)
  have b7 : W2.cell? ⟨w.heap.size + 1, 7, none⟩ = some (.bool x7) := by rw [hW2]; exact (World.cell?_alloc_at _ _ _ _ (by simp)).trans rfl
  have a7 : w1.cell? ⟨w.heap.size, 7, none⟩ = some (.bool x7) := ((bcell hb1).1 _ _ (by omega)).trans a7
  have b7 : w1.cell? ⟨w.heap.size + 1, 7, none⟩ = some (.bool x7) := ((bcell hb1).1 _ _ (by omega)).trans b7
  have a8 : W2.cell? ⟨w.heap.size, 8, none⟩ = some (.int .i64 x8) := by rw [hW2]; exact (cell_under9 _ _ _ _ (by simp)).trans (by simp)
  have b8 : W2.cell? ⟨w.heap.size + 1, 8, none⟩ = some (.int .i64 x8) := by rw [hW2]; exact (World.cell?_alloc_at _ _ _ _ (by simp)).trans rfl
  have a8 : w1.cell? ⟨w.heap.size, 8, none⟩ = some (.int .i64 x8) := ((bcell hb1).1 _ _ (by omega)).trans a8
  have b8 : w1.cell? ⟨w.heap.size + 1, 8, none⟩ = some (.int .i64 x8) := ((bcell hb1).1 _ _ (by omega)).trans b8
  have B2 : Below w.heap.size w W2 := by rw [hW2]; exact ((Below.refl _ _).alloc (Nat.le_refl _) _).alloc (by simp) _
  have B1 : Hid (Below w.heap.size w w1) := B2.trans (hb1.mono (by omega))
  clear hb1 hW2 hs2 B2
  go_wp2
  go_ret
  exact ⟨rfl, B1.out⟩
end Go.Proofs.YtaccgciopmclhaaGreatDoor

/- A struct of 6 one-cell fields, by value, opened. -/
namespace Go.Proofs.YtaccgciopmclhaaGreatDoor
open Go.ChangeShapes Go.WideShapes Go.ChangeAt Go.RowKit Go.Joins Go.Deep

theorem array6 {α : Type} {cs : Array α} (h : cs.size = 6) : ∃ c0 c1 c2 c3 c4 c5, cs = #[c0, c1, c2, c3, c4, c5] := by
  obtain ⟨l⟩ := cs
  match l, h with
  | [c0, c1, c2, c3, c4, c5], _ => exact ⟨c0, c1, c2, c3, c4, c5, rfl⟩
theorem trod_struct6 {H : Type} {enc : TypeId × Value → H} {P : Program} {w : World} {base : Nat} {spare : Nat → Bool} {held : Bool} {t : TypeId} {f0 f1 f2 f3 f4 f5 : Field} {fuel : Nat} {cs : List Value} {x : DataW H × List MemPlace} (ht : P.underlying t = some (.struct #[f0, f1, f2, f3, f4, f5])) (h : DataW.trod enc P w base spare held fuel t cs = some x) :
    ∃ (y0 y1 y2 y3 y4 y5 : DataW H × List MemPlace) (n : Nat), DataW.trod enc P w base spare held n f0.type ((cs.drop f0.offset).take (P.cellsOf f0.type)) = some y0 ∧ DataW.trod enc P w base spare held n f1.type ((cs.drop f1.offset).take (P.cellsOf f1.type)) = some y1 ∧ DataW.trod enc P w base spare held n f2.type ((cs.drop f2.offset).take (P.cellsOf f2.type)) = some y2 ∧ DataW.trod enc P w base spare held n f3.type ((cs.drop f3.offset).take (P.cellsOf f3.type)) = some y3 ∧ DataW.trod enc P w base spare held n f4.type ((cs.drop f4.offset).take (P.cellsOf f4.type)) = some y4 ∧ DataW.trod enc P w base spare held n f5.type ((cs.drop f5.offset).take (P.cellsOf f5.type)) = some y5 := by
  obtain ⟨xs, n, _, rfl, hl, hlen, hf⟩ := DataW.trod_struct ht h
  match xs, hlen with
  | [y0, y1, y2, y3, y4, y5], _ => exact ⟨y0, y1, y2, y3, y4, y5, n, by simpa using hf 0 f0 rfl, by simpa using hf 1 f1 rfl, by simpa using hf 2 f2 rfl, by simpa using hf 3 f3 rfl, by simpa using hf 4 f4 rfl, by simpa using hf 5 f5 rfl⟩
theorem open_agg6 {H : Type} {enc : TypeId × Value → H} {P : Program} {w : World} {base : Nat} {spare : Nat → Bool} {held : Bool} {r : Reach} {b0 : Nat} {t : TypeId} {f0 f1 f2 f3 f4 f5 : Field} {v : Value} {d : DataW H} {p : List MemPlace} (hs : P.underlying t = some (.struct #[f0, f1, f2, f3, f4, f5])) (hone : oneCellFields P #[f0, f1, f2, f3, f4, f5] = true) (hC : P.cellsOf t = 6)
    (hv : Value.okWide P w r b0 t v) (h : DataW.Trod enc P w base spare held t v d p) :
    ∃ (c0 c1 c2 c3 c4 c5 : Value) (y0 y1 y2 y3 y4 y5 : DataW H × List MemPlace) (n : Nat), v = .agg #[c0, c1, c2, c3, c4, c5] ∧ DataW.trod enc P w base spare held n f0.type [c0] = some y0 ∧ DataW.trod enc P w base spare held n f1.type [c1] = some y1 ∧ DataW.trod enc P w base spare held n f2.type [c2] = some y2 ∧ DataW.trod enc P w base spare held n f3.type [c3] = some y3 ∧ DataW.trod enc P w base spare held n f4.type [c4] = some y4 ∧ DataW.trod enc P w base spare held n f5.type [c5] = some y5 := by
  obtain ⟨cs, rfl, hsz⟩ := okWide_struct hs hv
  obtain ⟨c0, c1, c2, c3, c4, c5, rfl⟩ := array6 (hsz.trans hC)
  obtain ⟨fuel, hf⟩ := h
  obtain ⟨y0, y1, y2, y3, y4, y5, n, h0, h1, h2, h3, h4, h5⟩ := trod_struct6 hs hf
  obtain ⟨o0, k0⟩ := hone_of hone 0 f0 rfl
  obtain ⟨o1, k1⟩ := hone_of hone 1 f1 rfl
  obtain ⟨o2, k2⟩ := hone_of hone 2 f2 rfl
  obtain ⟨o3, k3⟩ := hone_of hone 3 f3 rfl
  obtain ⟨o4, k4⟩ := hone_of hone 4 f4 rfl
  obtain ⟨o5, k5⟩ := hone_of hone 5 f5 rfl
  exact ⟨c0, c1, c2, c3, c4, c5, y0, y1, y2, y3, y4, y5, n, rfl, by simpa [Value.cells, o0, k0] using h0, by simpa [Value.cells, o1, k1] using h1, by simpa [Value.cells, o2, k2] using h2, by simpa [Value.cells, o3, k3] using h3, by simpa [Value.cells, o4, k4] using h4, by simpa [Value.cells, o5, k5] using h5⟩
end Go.Proofs.YtaccgciopmclhaaGreatDoor

/- A struct of 4 one-cell fields, by value, opened. -/
namespace Go.Proofs.YtaccgciopmclhaaGreatDoor
open Go.ChangeShapes Go.WideShapes Go.ChangeAt Go.RowKit Go.Joins Go.Deep

theorem array4 {α : Type} {cs : Array α} (h : cs.size = 4) : ∃ c0 c1 c2 c3, cs = #[c0, c1, c2, c3] := by
  obtain ⟨l⟩ := cs
  match l, h with
  | [c0, c1, c2, c3], _ => exact ⟨c0, c1, c2, c3, rfl⟩
theorem trod_struct4 {H : Type} {enc : TypeId × Value → H} {P : Program} {w : World} {base : Nat} {spare : Nat → Bool} {held : Bool} {t : TypeId} {f0 f1 f2 f3 : Field} {fuel : Nat} {cs : List Value} {x : DataW H × List MemPlace} (ht : P.underlying t = some (.struct #[f0, f1, f2, f3])) (h : DataW.trod enc P w base spare held fuel t cs = some x) :
    ∃ (y0 y1 y2 y3 : DataW H × List MemPlace) (n : Nat), DataW.trod enc P w base spare held n f0.type ((cs.drop f0.offset).take (P.cellsOf f0.type)) = some y0 ∧ DataW.trod enc P w base spare held n f1.type ((cs.drop f1.offset).take (P.cellsOf f1.type)) = some y1 ∧ DataW.trod enc P w base spare held n f2.type ((cs.drop f2.offset).take (P.cellsOf f2.type)) = some y2 ∧ DataW.trod enc P w base spare held n f3.type ((cs.drop f3.offset).take (P.cellsOf f3.type)) = some y3 := by
  obtain ⟨xs, n, _, rfl, hl, hlen, hf⟩ := DataW.trod_struct ht h
  match xs, hlen with
  | [y0, y1, y2, y3], _ => exact ⟨y0, y1, y2, y3, n, by simpa using hf 0 f0 rfl, by simpa using hf 1 f1 rfl, by simpa using hf 2 f2 rfl, by simpa using hf 3 f3 rfl⟩
end Go.Proofs.YtaccgciopmclhaaGreatDoor

/- Slices of frames; a slice of frames that came in; the laws' szFrameS, toFrameS and eqFrameS over it. Written by rowsin.py. -/
namespace Go.Proofs.YtaccgciopmclhaaGreatDoor
open Go.ChangeShapes Go.WideShapes Go.ChangeAt Go.RowKit Go.Joins Go.Deep

theorem fr_wf {n : Int} (h : (Lit.int .i64 n).wf = true) : -9223372036854775808 ≤ n ∧ n ≤ 9223372036854775807 := by
  simp [Lit.wf] at h
  have e1 : IntKind.i64.min = -9223372036854775808 := by decide
  have e2 : IntKind.i64.max = 9223372036854775807 := by decide
  omega
def atF (L : List Fr) (j : Nat) : Fr := L.getD j frNone
/-- the cells of frames -/
def frR (L : List Fr) (j o : Nat) : Value := frC (atF L j) o
/-- a slice of frames -/
def SliceF (w : World) (B : Nat) (v : Value) (L : List Fr) : Prop := SliceR w B 9 v L.length (frR L) ∧ ∃ p c, v = .slice p L.length c ∧ L.length ≤ c ∧ (p = none → c = 0)
theorem SliceF.below {w w' : World} {B : Nat} {v : Value} {L : List Fr} (h : SliceF w B v L) (hb : Below w.heap.size w w') : SliceF w' B v L := ⟨h.1.below hb, h.2⟩
theorem SliceF.mono {w : World} {B B' : Nat} {v : Value} {L : List Fr} (h : SliceF w B v L) (hB : B' ≤ B) : SliceF w B' v L := ⟨h.1.mono hB, h.2⟩
set_option maxRecDepth 10000 in
theorem trod_cellsFr {H : Type} {enc : TypeId × Value → H} {w : World} {base : Nat} {spare : Nat → Bool} {held : Bool} {fuel : Nat} {v0 v1 v2 v3 v4 v5 v6 v7 v8 : Value} {x : DataW H × List MemPlace} (h : DataW.trod enc Tryz.prog w base spare held fuel 109 [v0, v1, v2, v3, v4, v5, v6, v7, v8] = some x) :
    ∃ (y0 y1 y2 y3 y4 y5 y6 y7 y8 : DataW H × List MemPlace) (n m : Nat), DataW.trod enc Tryz.prog w base spare held n 2 [v0] = some y0 ∧ DataW.trod enc Tryz.prog w base spare held n 2 [v1] = some y1 ∧ DataW.trod enc Tryz.prog w base spare held m 9 [v2] = some y2 ∧ DataW.trod enc Tryz.prog w base spare held m 9 [v3] = some y3 ∧ DataW.trod enc Tryz.prog w base spare held m 2 [v4] = some y4 ∧ DataW.trod enc Tryz.prog w base spare held m 9 [v5] = some y5 ∧ DataW.trod enc Tryz.prog w base spare held n 4 [v6] = some y6 ∧ DataW.trod enc Tryz.prog w base spare held n 4 [v7] = some y7 ∧ DataW.trod enc Tryz.prog w base spare held n 2 [v8] = some y8 := by
  have k1 : Tryz.prog.cellsOf 2 = 1 := by kernel_rfl
  have k2 : Tryz.prog.cellsOf 4 = 1 := by kernel_rfl
  have k3 : Tryz.prog.cellsOf 9 = 1 := by kernel_rfl
  have k4 : Tryz.prog.cellsOf 107 = 4 := by kernel_rfl
  obtain ⟨a0, a1, a2, a3, a4, a5, n, h0, h1, h2, h3, h4, h5⟩ := trod_struct6 Tryz.underlying109 h
  simp only [k1, k2, k4, List.drop_zero, List.drop_succ_cons, List.take_succ_cons, List.take_zero] at h0 h1 h2 h3 h4 h5
  obtain ⟨b0, b1, b2, b3, m, g0, g1, g2, g3⟩ := trod_struct4 Tryz.underlying107 h2
  simp only [k1, k3, List.drop_zero, List.drop_succ_cons, List.take_succ_cons, List.take_zero] at g0 g1 g2 g3
  exact ⟨a0, a1, b0, b1, b2, b3, a3, a4, a5, n, m, h0, h1, g0, g1, g2, g3, h3, h4, h5⟩
/-- frames that a slice leads to -/
def FrRow (w : World) (a : Option Addr) (L : List Fr) : Prop := ∀ i, i < L.length → ∃ x, a = some x ∧ x.block < w.heap.size ∧ (∀ o, o < 9 → w.cell? (x.add (i * 9 + o)) = some (frC (atF L i) o)) ∧ (atF L i).sc.size ≤ maxLen ∧ (atF L i).ho.size ≤ maxLen ∧ (atF L i).pt.size ≤ maxLen ∧ -9223372036854775808 ≤ (atF L i).id ∧ (atF L i).id ≤ 9223372036854775807 ∧ -9223372036854775808 ≤ (atF L i).pa ∧ (atF L i).pa ≤ 9223372036854775807 ∧ -9223372036854775808 ≤ (atF L i).po ∧ (atF L i).po ≤ 9223372036854775807 ∧ -9223372036854775808 ≤ (atF L i).tc ∧ (atF L i).tc ≤ 9223372036854775807
theorem FrRow.below {w w' : World} {a : Option Addr} {L : List Fr} (h : FrRow w a L) (hb : Below w.heap.size w w') : FrRow w' a L := by
  intro i hi
  obtain ⟨x, e, hx, hc, hs⟩ := h i hi
  exact ⟨x, e, Nat.lt_of_lt_of_le hx hb.size, fun o ho => by rw [hb.cell (p := x.add (i * 9 + o)) (by rw [addr_blk]; exact hx)]; exact hc o ho, hs⟩
theorem listFr {α : Type} {cs : List α} (h : cs.length = 9) : ∃ c0 c1 c2 c3 c4 c5 c6 c7 c8, cs = [c0, c1, c2, c3, c4, c5, c6, c7, c8] := by
  match cs, h with
  | [c0, c1, c2, c3, c4, c5, c6, c7, c8], _ => exact ⟨c0, c1, c2, c3, c4, c5, c6, c7, c8, rfl⟩
set_option maxRecDepth 10000 in
set_option maxHeartbeats 4000000 in
theorem frRow_of {H : Type} {enc : TypeId × Value → H} {W : World} {a : Option Addr} {len cap : Nat} {d : DataW H} {p : List MemPlace}
    (h : ∃ fuel, DataW.trod enc Tryz.prog W 0 (fun _ => true) true fuel 24 (Value.slice a len cap).cells.toList = some (d, p)) : (∃ L, L.length = len ∧ FrRow W a L) ∧ len ≤ maxLen := by
  obtain ⟨fuel, hf⟩ := h
  rcases Go.Deep.open_slice Tryz.underlying24 hf with ⟨hcs, _⟩ | ⟨x, l, c, m, n, D, Pl, hcs, _, hl, hm, hmm, _, hcell⟩
  · simp [Value.cells] at hcs
    obtain ⟨rfl, rfl, rfl⟩ := hcs
    exact ⟨⟨[], rfl, fun i hi => absurd hi (by simp)⟩, Nat.zero_le _⟩
  · simp [Value.cells] at hcs
    obtain ⟨rfl, rfl, rfl⟩ := hcs
    have hmc : m = cap := by simpa using hmm
    have ce : Tryz.prog.cellsOf 109 = 9 := by kernel_rfl
    have each : ∀ i, i < len → ∃ q : Fr, (∀ o, o < 9 → W.cell? (x.add (i * 9 + o)) = some (frC q o)) ∧ q.sc.size ≤ maxLen ∧ q.ho.size ≤ maxLen ∧ q.pt.size ≤ maxLen ∧ -9223372036854775808 ≤ q.id ∧ q.id ≤ 9223372036854775807 ∧ -9223372036854775808 ≤ q.pa ∧ q.pa ≤ 9223372036854775807 ∧ -9223372036854775808 ≤ q.po ∧ q.po ≤ 9223372036854775807 ∧ -9223372036854775808 ≤ q.tc ∧ q.tc ≤ 9223372036854775807 := fun i hi => by
      obtain ⟨cs', h1, h2⟩ := hcell i (by omega)
      rw [ce] at h1
      obtain ⟨_, hlen, hc⟩ := World.cells?_some h1
      obtain ⟨v0, v1, v2, v3, v4, v5, v6, v7, v8, rfl⟩ := listFr hlen
      obtain ⟨y0, y1, y2, y3, y4, y5, y6, y7, y8, n', m', g0, g1, g2, g3, g4, g5, g6, g7, g8⟩ := trod_cellsFr h2
      obtain ⟨s0, e0, -, z0⟩ := DataW.trod_int Tryz.underlying2 g0
      obtain ⟨s1, e1, -, z1⟩ := DataW.trod_int Tryz.underlying2 g1
      obtain ⟨s2, e2, -, z2⟩ := DataW.trod_string Tryz.underlying9 g2
      obtain ⟨s3, e3, -, z3⟩ := DataW.trod_string Tryz.underlying9 g3
      obtain ⟨s4, e4, -, z4⟩ := DataW.trod_int Tryz.underlying2 g4
      obtain ⟨s5, e5, -, z5⟩ := DataW.trod_string Tryz.underlying9 g5
      obtain ⟨s6, e6, -⟩ := DataW.trod_bool Tryz.underlying4 g6
      obtain ⟨s7, e7, -⟩ := DataW.trod_bool Tryz.underlying4 g7
      obtain ⟨s8, e8, -, z8⟩ := DataW.trod_int Tryz.underlying2 g8
      simp only [List.cons.injEq, and_true] at e0 e1 e2 e3 e4 e5 e6 e7 e8
      subst e0 e1 e2 e3 e4 e5 e6 e7 e8
      refine ⟨⟨s0, s1, s2, s3, s4, s5, s6, s7, s8⟩, fun o ho => ?_, z2, z3, z5, (fr_wf z0).1, (fr_wf z0).2, (fr_wf z1).1, (fr_wf z1).2, (fr_wf z4).1, (fr_wf z4).2, (fr_wf z8).1, (fr_wf z8).2⟩
      have hco := hc o ho
      rw [add_add] at hco
      rw [hco]
      match o, ho with
      | 0, _ => rfl
      | 1, _ => rfl
      | 2, _ => rfl
      | 3, _ => rfl
      | 4, _ => rfl
      | 5, _ => rfl
      | 6, _ => rfl
      | 7, _ => rfl
      | 8, _ => rfl
    obtain ⟨q, hq⟩ := @Go.Deep.choose_lt Fr ⟨frNone⟩ len _ each
    refine ⟨⟨(List.range len).map q, by simp, fun i hi => ?_⟩, by omega⟩
    have hi' : i < len := by simpa using hi
    have e : atF ((List.range len).map q) i = q i := by simp [atF, hi']
    rw [e]
    refine ⟨x, rfl, ?_, hq i hi'⟩
    have := World.block_lt_of_cell? W _ ((hq i hi').1 0 (by omega))
    rw [addr_blk] at this; exact this
set_option maxRecDepth 10000 in
set_option maxHeartbeats 4000000 in
theorem szFrameS_any (a : Option Addr) (cap : Nat) (L : List Fr) (l : Int) (w : World) (hr : FrRow w a L) (hn : L.length ≤ maxLen) (h0 : 0 ≤ l) (h1 : l ≤ 1048576) :
    Calls Tryz.prog 21 #[.slice a L.length cap, .int .i64 l] w fun e w' => (∃ r : Int, e = .returned (.int .i64 r) ∧ (r < 0 ∨ (0 ≤ r ∧ r ≤ 1048576 ∧ L.length ≤ 1048576 ∧ ∀ i, i < L.length → (atF L i).sc.size + (atF L i).ho.size + (atF L i).pt.size ≤ 1048576))) ∧ Below w.heap.size w w' := by
  unfold maxLen at hn
  by_cases hl : l < L.length
  · have q : decide (l - (L.length : Int) < 0) = true := by rw [decide_eq_true_iff]; omega
    go_enter Tryz.func21, Tryz.ntmps21
    go_wp2
    go_ret
    exact ⟨⟨_, rfl, .inl (by decide)⟩, Below.refl _ _⟩
  have q : decide (l - (L.length : Int) < 0) = false := by rw [decide_eq_false_iff_not]; omega
  have HR : Hid (FrRow w a L) := hr
  clear hr
  go_enter Tryz.func21, Tryz.ntmps21
  go_wp2
  go_loopw [1, 5] (fun v i wr => ∃ (k : Nat) (z : Int), k ≤ L.length ∧ v = .int .i64 z ∧ i = .int .i64 k ∧ 0 ≤ z ∧ z ≤ 1048576 ∧ Hid (∀ i, i < k → (atF L i).sc.size + (atF L i).ho.size + (atF L i).pt.size ≤ 1048576) ∧ Hid (Below w.heap.size w wr)) (fun _ i _ => L.length - (intOf i).toNat)
  case atStart => exact ⟨0, _, Nat.zero_le _, rfl, rfl, by omega, by omega, fun i hi => absurd hi (by omega), Below.refl _ _⟩
  case round =>
    obtain ⟨k, z, hk, rfl, rfl, z0, zl, HS, HB⟩ := hrel
    by_cases hlt : k < L.length
    · obtain ⟨x, rfl, hx, hc, hs2, hs3, hs5, -⟩ := HR.out.below HB.out k hlt
      have c0 : wr.cell? (x.add (k * 9)) = some (.int .i64 (atF L k).id) := hc 0 (by omega)
      have c1 : wr.cell? ⟨(x.add (k * 9)).block, (x.add (k * 9)).off + 1, none⟩ = some (.int .i64 (atF L k).pa) := by rw [show (.int .i64 (atF L k).pa) = frC (atF L k) 1 from rfl, ← hc 1 (by omega), ← add_add]; rfl
      have c2 : wr.cell? ⟨(x.add (k * 9)).block, (x.add (k * 9)).off + 2, none⟩ = some (.string (atF L k).sc) := by rw [show (.string (atF L k).sc) = frC (atF L k) 2 from rfl, ← hc 2 (by omega), ← add_add]; rfl
      have c3 : wr.cell? ⟨(x.add (k * 9)).block, (x.add (k * 9)).off + 3, none⟩ = some (.string (atF L k).ho) := by rw [show (.string (atF L k).ho) = frC (atF L k) 3 from rfl, ← hc 3 (by omega), ← add_add]; rfl
      have c4 : wr.cell? ⟨(x.add (k * 9)).block, (x.add (k * 9)).off + 4, none⟩ = some (.int .i64 (atF L k).po) := by rw [show (.int .i64 (atF L k).po) = frC (atF L k) 4 from rfl, ← hc 4 (by omega), ← add_add]; rfl
      have c5 : wr.cell? ⟨(x.add (k * 9)).block, (x.add (k * 9)).off + 5, none⟩ = some (.string (atF L k).pt) := by rw [show (.string (atF L k).pt) = frC (atF L k) 5 from rfl, ← hc 5 (by omega), ← add_add]; rfl
      have c6 : wr.cell? ⟨(x.add (k * 9)).block, (x.add (k * 9)).off + 6, none⟩ = some (.bool (atF L k).sb) := by rw [show (.bool (atF L k).sb) = frC (atF L k) 6 from rfl, ← hc 6 (by omega), ← add_add]; rfl
      have c7 : wr.cell? ⟨(x.add (k * 9)).block, (x.add (k * 9)).off + 7, none⟩ = some (.bool (atF L k).fl) := by rw [show (.bool (atF L k).fl) = frC (atF L k) 7 from rfl, ← hc 7 (by omega), ← add_add]; rfl
      have c8 : wr.cell? ⟨(x.add (k * 9)).block, (x.add (k * 9)).off + 8, none⟩ = some (.int .i64 (atF L k).tc) := by rw [show (.int .i64 (atF L k).tc) = frC (atF L k) 8 from rfl, ← hc 8 (by omega), ← add_add]; rfl
      have KZ : Hid (∀ W, Calls Tryz.prog 69 #[.agg #[.int .i64 (atF L k).id, .int .i64 (atF L k).pa, .string (atF L k).sc, .string (atF L k).ho, .int .i64 (atF L k).po, .string (atF L k).pt, .bool (atF L k).sb, .bool (atF L k).fl, .int .i64 (atF L k).tc], .int .i64 z] W fun e w' => (∃ r : Int, e = .returned (.int .i64 r) ∧ (r < 0 ∨ (0 ≤ r ∧ r ≤ 1048576 ∧ (atF L k).sc.size + (atF L k).ho.size + (atF L k).pt.size ≤ 1048576))) ∧ Below W.heap.size W w') := fun W => szFrame_at (atF L k).id (atF L k).pa (atF L k).sc (atF L k).ho (atF L k).po (atF L k).pt (atF L k).sb (atF L k).fl (atF L k).tc z W hs2 hs3 hs5 z0 zl
      have k0 : (0 : Int) ≤ k := by omega
      have k1 : (k : Int) < L.length := by omega
      have HN : Hid ((atF L k).sc.size + (atF L k).ho.size + (atF L k).pt.size ≤ 1048576 → ∀ i, i < k + 1 → (atF L i).sc.size + (atF L i).ho.size + (atF L i).pt.size ≤ 1048576) := fun hs i hi => by
        by_cases e : i = k
        · subst e; exact hs
        · exact HS.out i (by omega)
      clear hc hs2 hs3 hs5
      generalize atF L k = y at *
      obtain ⟨id, pa, sc, ho, po, pt, sb, fl, tc⟩ := y
      dsimp only at *
      go_wp2_with fail
      refine (KZ.out _).mono ?_
      rintro e w1 ⟨⟨r, rfl, hr⟩, hb1⟩
      have B1 : Hid (Below w.heap.size w w1) := HB.out.trans (hb1.mono HB.out.size)
      clear hb1 c0 c1 c2 c3 c4 c5 c6 c7 c8
      rcases hr with hr | ⟨r0, r1, hsum⟩
      · have q2 : decide (r < 0) = true := by rw [decide_eq_true_iff]; exact hr
        go_wp2
        go_ret
        exact ⟨⟨_, rfl, .inl (by decide)⟩, B1.out⟩
      · have q2 : decide (r < 0) = false := by rw [decide_eq_false_iff_not]; omega
        have HN2 : Hid (∀ i, i < k + 1 → (atF L i).sc.size + (atF L i).ho.size + (atF L i).pt.size ≤ 1048576) := HN.out hsum
        clear hsum
        go_wp2
        go_roundw
        case rel => exact ⟨k + 1, r, by omega, rfl, by go_num, r0, r1, HN2, B1⟩
        case measure => simp [intOf]; omega
    · go_wp2
      go_ret
      exact ⟨⟨_, rfl, .inr ⟨z0, zl, by omega, fun i hi => HS.out i (by omega)⟩⟩, HB.out⟩
theorem infoFrame : (Tryz.prog.info? 99).map (fun i => (i.zero, i.size, i.bytes)) = some (some (.agg #[.int .i64 0, .int .i64 0, .string ⟨#[]⟩, .string ⟨#[]⟩, .int .i64 0, .string ⟨#[]⟩, .bool false, .bool false, .int .i64 0]), 9, 88) := by kernel_rfl
/-- the first k as they are, the others empty -/
def uptoF (L : List Fr) (k j o : Nat) : Value := if j < k then frC (atF L j) o else frC frNone o
theorem make_Frames (w : World) (n : Nat) (hn : n ≤ 1048576) :
    ∃ w', Sem.run Tryz.prog (Instr.makeSlice 33 (.int .i64 (n : Int)) (.int .i64 (n : Int))) w = .ok (.slice (some ⟨w.heap.size, 0, none⟩) n n) w' ∧ SliceR w' w.heap.size 9 (.slice (some ⟨w.heap.size, 0, none⟩) n n) n (fun _ o => frC frNone o) ∧ w.heap.size < w'.heap.size ∧ Below w.heap.size w w' := by
  obtain ⟨i, h2, h3, h4, h5⟩ := info_parts infoFrame
  have hrun := run_make (P := Tryz.prog) w 33 99 i (.agg #[.int .i64 0, .int .i64 0, .string ⟨#[]⟩, .string ⟨#[]⟩, .int .i64 0, .string ⟨#[]⟩, .bool false, .bool false, .int .i64 0]) Tryz.underlying33 h2 h3 .i64 .i64 n n (by omega) (Int.le_refl _) (by rw [h5]; omega) (by omega)
  simp only [Int.toNat_natCast, h4] at hrun
  refine ⟨_, hrun, ?_, by simp, (Below.refl _ _).alloc (Nat.le_refl _) _⟩
  refine ⟨_, _, rfl, fun _ => ⟨w.heap.size, rfl, Nat.le_refl _, by simp, fun j hj o ho => ⟨?_, by simp⟩⟩⟩
  rw [World.cell?_alloc_new]
  have hz : j * 9 + o < n * 9 := by omega
  have hm : (j * 9 + o) % 9 = o := by omega
  have e : (madeCells (Value.agg #[.int .i64 0, .int .i64 0, .string ⟨#[]⟩, .string ⟨#[]⟩, .int .i64 0, .string ⟨#[]⟩, .bool false, .bool false, .int .i64 0]).cells (n * 9))[j * 9 + o]? = some (frC frNone o) := by
    rw [Array.getElem?_eq_some_iff]
    refine ⟨by rw [size_madeCells]; exact hz, ?_⟩
    unfold madeCells
    rw [Array.getElem_map, Array.getElem_range]
    show (#[.int .i64 0, .int .i64 0, .string ⟨#[]⟩, .string ⟨#[]⟩, .int .i64 0, .string ⟨#[]⟩, .bool false, .bool false, .int .i64 0] : Array Value)[(j * 9 + o) % 9]! = _
    rw [hm]
    match o, ho with
    | 0, _ => rfl
    | 1, _ => rfl
    | 2, _ => rfl
    | 3, _ => rfl
    | 4, _ => rfl
    | 5, _ => rfl
    | 6, _ => rfl
    | 7, _ => rfl
    | 8, _ => rfl
  exact e
/-- ten cells written: one frame put at its place -/
theorem SliceR.putFr {w : World} {B n m g cap : Nat} {f : Nat → Nat → Value} (hs : SliceR w B 9 (.slice (some ⟨g, 0, none⟩) m cap) n f) (k : Nat) (hk : k < n) (c : Fr) :
    SliceR (((((((((w.setCell ⟨g, k * 9 + 0, none⟩ (.int .i64 c.id)).setCell ⟨g, k * 9 + 1, none⟩ (.int .i64 c.pa)).setCell ⟨g, k * 9 + 2, none⟩ (.string c.sc)).setCell ⟨g, k * 9 + 3, none⟩ (.string c.ho)).setCell ⟨g, k * 9 + 4, none⟩ (.int .i64 c.po)).setCell ⟨g, k * 9 + 5, none⟩ (.string c.pt)).setCell ⟨g, k * 9 + 6, none⟩ (.bool c.sb)).setCell ⟨g, k * 9 + 7, none⟩ (.bool c.fl)).setCell ⟨g, k * 9 + 8, none⟩ (.int .i64 c.tc)) B 9 (.slice (some ⟨g, 0, none⟩) m cap) n (fun j o => if j = k then frC c o else f j o) := by
  refine SliceR.congr (SliceR.set (SliceR.set (SliceR.set (SliceR.set (SliceR.set (SliceR.set (SliceR.set (SliceR.set (SliceR.set (hs) k 0 hk (by omega) _) k 1 hk (by omega) _) k 2 hk (by omega) _) k 3 hk (by omega) _) k 4 hk (by omega) _) k 5 hk (by omega) _) k 6 hk (by omega) _) k 7 hk (by omega) _) k 8 hk (by omega) _) (fun j hj o ho => ?_)
  by_cases e : j = k
  · subst e
    match o, ho with
    | 0, _ => simp [updR, frC]
    | 1, _ => simp [updR, frC]
    | 2, _ => simp [updR, frC]
    | 3, _ => simp [updR, frC]
    | 4, _ => simp [updR, frC]
    | 5, _ => simp [updR, frC]
    | 6, _ => simp [updR, frC]
    | 7, _ => simp [updR, frC]
    | 8, _ => simp [updR, frC]
  · simp [updR, e]
set_option maxRecDepth 10000 in
set_option maxHeartbeats 4000000 in
theorem toFrameS_any (a : Option Addr) (cap : Nat) (L : List Fr) (w : World) (hr : FrRow w a L) (hn : L.length ≤ 1048576) :
    Calls Tryz.prog 34 #[.slice a L.length cap] w fun e w' => ∃ v, e = .returned v ∧ SliceF w' w.heap.size v L ∧ Below w.heap.size w w' := by
  have HR : Hid (FrRow w a L) := hr
  clear hr
  obtain ⟨w1, hmk, hs1, hz1, hb1⟩ := make_Frames w L.length hn
  have HS1 : Hid (SliceR w1 w.heap.size 9 (.slice (some ⟨w.heap.size, 0, none⟩) L.length L.length) L.length (uptoF L 0)) := SliceR.congr hs1 (fun j _ o _ => by unfold uptoF; rw [if_neg (by omega)])
  have HB1 : Hid (Below w.heap.size w w1) := hb1
  clear hs1 hb1
  go_enter Tryz.func34, Tryz.ntmps34
  go_wp2
  clear hmk
  go_loopw [4] (fun i wr => ∃ k : Nat, k ≤ L.length ∧ i = .int .i64 k ∧ Hid (SliceR wr w.heap.size 9 (.slice (some ⟨w.heap.size, 0, none⟩) L.length L.length) L.length (uptoF L k)) ∧ Hid (Below w.heap.size w wr)) (fun i _ => L.length - (intOf i).toNat)
  case atStart => exact ⟨0, Nat.zero_le _, rfl, HS1, HB1⟩
  case round =>
    obtain ⟨k, hk, rfl, HS, HB⟩ := hrel
    by_cases hlt : k < L.length
    · obtain ⟨x, rfl, hx, hc, -⟩ := HR.out.below HB.out k hlt
      have c0 : wr.cell? (x.add (k * 9)) = some (.int .i64 (atF L k).id) := hc 0 (by omega)
      have c1 : wr.cell? ⟨(x.add (k * 9)).block, (x.add (k * 9)).off + 1, none⟩ = some (.int .i64 (atF L k).pa) := by rw [show (.int .i64 (atF L k).pa) = frC (atF L k) 1 from rfl, ← hc 1 (by omega), ← add_add]; rfl
      have c2 : wr.cell? ⟨(x.add (k * 9)).block, (x.add (k * 9)).off + 2, none⟩ = some (.string (atF L k).sc) := by rw [show (.string (atF L k).sc) = frC (atF L k) 2 from rfl, ← hc 2 (by omega), ← add_add]; rfl
      have c3 : wr.cell? ⟨(x.add (k * 9)).block, (x.add (k * 9)).off + 3, none⟩ = some (.string (atF L k).ho) := by rw [show (.string (atF L k).ho) = frC (atF L k) 3 from rfl, ← hc 3 (by omega), ← add_add]; rfl
      have c4 : wr.cell? ⟨(x.add (k * 9)).block, (x.add (k * 9)).off + 4, none⟩ = some (.int .i64 (atF L k).po) := by rw [show (.int .i64 (atF L k).po) = frC (atF L k) 4 from rfl, ← hc 4 (by omega), ← add_add]; rfl
      have c5 : wr.cell? ⟨(x.add (k * 9)).block, (x.add (k * 9)).off + 5, none⟩ = some (.string (atF L k).pt) := by rw [show (.string (atF L k).pt) = frC (atF L k) 5 from rfl, ← hc 5 (by omega), ← add_add]; rfl
      have c6 : wr.cell? ⟨(x.add (k * 9)).block, (x.add (k * 9)).off + 6, none⟩ = some (.bool (atF L k).sb) := by rw [show (.bool (atF L k).sb) = frC (atF L k) 6 from rfl, ← hc 6 (by omega), ← add_add]; rfl
      have c7 : wr.cell? ⟨(x.add (k * 9)).block, (x.add (k * 9)).off + 7, none⟩ = some (.bool (atF L k).fl) := by rw [show (.bool (atF L k).fl) = frC (atF L k) 7 from rfl, ← hc 7 (by omega), ← add_add]; rfl
      have c8 : wr.cell? ⟨(x.add (k * 9)).block, (x.add (k * 9)).off + 8, none⟩ = some (.int .i64 (atF L k).tc) := by rw [show (.int .i64 (atF L k).tc) = frC (atF L k) 8 from rfl, ← hc 8 (by omega), ← add_add]; rfl
      have KT : Hid (∀ W, Calls Tryz.prog 86 #[.agg #[.int .i64 (atF L k).id, .int .i64 (atF L k).pa, .string (atF L k).sc, .string (atF L k).ho, .int .i64 (atF L k).po, .string (atF L k).pt, .bool (atF L k).sb, .bool (atF L k).fl, .int .i64 (atF L k).tc]] W fun e w' => e = .returned (.agg #[.int .i64 (atF L k).id, .int .i64 (atF L k).pa, .string (atF L k).sc, .string (atF L k).ho, .int .i64 (atF L k).po, .string (atF L k).pt, .bool (atF L k).sb, .bool (atF L k).fl, .int .i64 (atF L k).tc]) ∧ Below W.heap.size W w') := fun W => toFrame_any _ _ _ _ _ _ _ _ _ W
      have HP : Hid (∀ w2 f, SliceR w2 w.heap.size 9 (.slice (some ⟨w.heap.size, 0, none⟩) L.length L.length) L.length f → SliceR (((((((((w2.setCell ⟨w.heap.size, k * 9 + 0, none⟩ (.int .i64 (atF L k).id)).setCell ⟨w.heap.size, k * 9 + 1, none⟩ (.int .i64 (atF L k).pa)).setCell ⟨w.heap.size, k * 9 + 2, none⟩ (.string (atF L k).sc)).setCell ⟨w.heap.size, k * 9 + 3, none⟩ (.string (atF L k).ho)).setCell ⟨w.heap.size, k * 9 + 4, none⟩ (.int .i64 (atF L k).po)).setCell ⟨w.heap.size, k * 9 + 5, none⟩ (.string (atF L k).pt)).setCell ⟨w.heap.size, k * 9 + 6, none⟩ (.bool (atF L k).sb)).setCell ⟨w.heap.size, k * 9 + 7, none⟩ (.bool (atF L k).fl)).setCell ⟨w.heap.size, k * 9 + 8, none⟩ (.int .i64 (atF L k).tc)) w.heap.size 9 (.slice (some ⟨w.heap.size, 0, none⟩) L.length L.length) L.length (fun j o => if j = k then frC (atF L k) o else f j o)) := fun w2 f hh => SliceR.putFr hh k hlt (atF L k)
      have HU : Hid (∀ j o, (if j = k then frC (atF L k) o else uptoF L k j o) = uptoF L (k + 1) j o) := fun j o => by
        unfold uptoF
        by_cases e : j = k
        · subst e; rw [if_pos rfl, if_pos (by omega)]
        · rw [if_neg e]
          by_cases h : j < k
          · rw [if_pos h, if_pos (by omega)]
          · rw [if_neg h, if_neg (by omega)]
      have k0 : (0 : Int) ≤ k := by omega
      have k1 : (k : Int) < L.length := by omega
      clear hc
      generalize atF L k = y at *
      obtain ⟨id, pa, sc, ho, po, pt, sb, fl, tc⟩ := y
      dsimp only at *
      go_wp2_with fail
      refine (KT.out _).mono ?_
      rintro e w2 ⟨rfl, hb2⟩
      have S2 : Hid (SliceR w2 w.heap.size 9 (.slice (some ⟨w.heap.size, 0, none⟩) L.length L.length) L.length (uptoF L k)) := SliceR.below HS.out hb2
      have B2 : Hid (Below w.heap.size w w2) := HB.out.trans (hb2.mono HB.out.size)
      clear hb2 hx c0 c1 c2 c3 c4 c5 c6 c7 c8
      obtain ⟨d0, f0, d1, f1, d2, f2, d3, f3, d4, f4, d5, f5, d6, f6, d7, f7, d8, f8⟩ : w2.cell? ⟨w.heap.size, k * 9, none⟩ = some (uptoF L k k 0) ∧ w2.frozen? ⟨w.heap.size, k * 9, none⟩ = false ∧ w2.cell? ⟨w.heap.size, k * 9 + 1, none⟩ = some (uptoF L k k 1) ∧ w2.frozen? ⟨w.heap.size, k * 9 + 1, none⟩ = false ∧ w2.cell? ⟨w.heap.size, k * 9 + 2, none⟩ = some (uptoF L k k 2) ∧ w2.frozen? ⟨w.heap.size, k * 9 + 2, none⟩ = false ∧ w2.cell? ⟨w.heap.size, k * 9 + 3, none⟩ = some (uptoF L k k 3) ∧ w2.frozen? ⟨w.heap.size, k * 9 + 3, none⟩ = false ∧ w2.cell? ⟨w.heap.size, k * 9 + 4, none⟩ = some (uptoF L k k 4) ∧ w2.frozen? ⟨w.heap.size, k * 9 + 4, none⟩ = false ∧ w2.cell? ⟨w.heap.size, k * 9 + 5, none⟩ = some (uptoF L k k 5) ∧ w2.frozen? ⟨w.heap.size, k * 9 + 5, none⟩ = false ∧ w2.cell? ⟨w.heap.size, k * 9 + 6, none⟩ = some (uptoF L k k 6) ∧ w2.frozen? ⟨w.heap.size, k * 9 + 6, none⟩ = false ∧ w2.cell? ⟨w.heap.size, k * 9 + 7, none⟩ = some (uptoF L k k 7) ∧ w2.frozen? ⟨w.heap.size, k * 9 + 7, none⟩ = false ∧ w2.cell? ⟨w.heap.size, k * 9 + 8, none⟩ = some (uptoF L k k 8) ∧ w2.frozen? ⟨w.heap.size, k * 9 + 8, none⟩ = false := by
        obtain ⟨p, c, e, hh⟩ := S2.out
        injection e with e1
        obtain ⟨g, e2, -, -, hc⟩ := hh (by omega)
        rw [e2] at e1
        injection e1 with e1
        injection e1 with e1
        subst e1
        exact ⟨(hc k hlt 0 (by omega)).1, (hc k hlt 0 (by omega)).2, (hc k hlt 1 (by omega)).1, (hc k hlt 1 (by omega)).2, (hc k hlt 2 (by omega)).1, (hc k hlt 2 (by omega)).2, (hc k hlt 3 (by omega)).1, (hc k hlt 3 (by omega)).2, (hc k hlt 4 (by omega)).1, (hc k hlt 4 (by omega)).2, (hc k hlt 5 (by omega)).1, (hc k hlt 5 (by omega)).2, (hc k hlt 6 (by omega)).1, (hc k hlt 6 (by omega)).2, (hc k hlt 7 (by omega)).1, (hc k hlt 7 (by omega)).2, (hc k hlt 8 (by omega)).1, (hc k hlt 8 (by omega)).2⟩
      generalize uptoF L k k 0 = z0 at *
      generalize uptoF L k k 1 = z1 at *
      generalize uptoF L k k 2 = z2 at *
      generalize uptoF L k k 3 = z3 at *
      generalize uptoF L k k 4 = z4 at *
      generalize uptoF L k k 5 = z5 at *
      generalize uptoF L k k 6 = z6 at *
      generalize uptoF L k k 7 = z7 at *
      generalize uptoF L k k 8 = z8 at *
      have HN : Hid (SliceR (((((((((w2.setCell ⟨w.heap.size, k * 9 + 0, none⟩ (.int .i64 id)).setCell ⟨w.heap.size, k * 9 + 1, none⟩ (.int .i64 pa)).setCell ⟨w.heap.size, k * 9 + 2, none⟩ (.string sc)).setCell ⟨w.heap.size, k * 9 + 3, none⟩ (.string ho)).setCell ⟨w.heap.size, k * 9 + 4, none⟩ (.int .i64 po)).setCell ⟨w.heap.size, k * 9 + 5, none⟩ (.string pt)).setCell ⟨w.heap.size, k * 9 + 6, none⟩ (.bool sb)).setCell ⟨w.heap.size, k * 9 + 7, none⟩ (.bool fl)).setCell ⟨w.heap.size, k * 9 + 8, none⟩ (.int .i64 tc)) w.heap.size 9 (.slice (some ⟨w.heap.size, 0, none⟩) L.length L.length) L.length (uptoF L (k + 1))) := SliceR.congr (HP.out w2 _ S2.out) (fun j hj o ho => HU.out j o)
      go_wp2
      go_roundw
      case rel => exact ⟨k + 1, by omega, by go_num, HN, ((((((((B2.out.setCell (Nat.le_refl _) _).setCell (Nat.le_refl _) _).setCell (Nat.le_refl _) _).setCell (Nat.le_refl _) _).setCell (Nat.le_refl _) _).setCell (Nat.le_refl _) _).setCell (Nat.le_refl _) _).setCell (Nat.le_refl _) _).setCell (Nat.le_refl _) _⟩
      case measure => simp [intOf]; omega
    · go_wp2
      go_ret
      refine ⟨_, rfl, ⟨?_, _, _, rfl, Nat.le_refl _, fun h => by cases h⟩, HB.out⟩
      exact SliceR.congr HS.out (fun j hj o ho => by unfold uptoF frR; rw [if_pos (by omega)])
set_option maxRecDepth 10000 in
set_option maxHeartbeats 8000000 in
theorem eqFrameS_any (a b : Value) (L : List Fr) (B B' : Nat) (w : World) (ha : SliceF w B a L) (hb : SliceF w B' b L) (hn : L.length ≤ 1048576) :
    Calls Tryz.prog 46 #[a, b] w fun e w' => e = .returned (.bool true) ∧ Below w.heap.size w w' := by
  obtain ⟨⟨p, cap, rfl, h1⟩, -⟩ := ha
  obtain ⟨⟨p', cap', rfl, h2⟩, -⟩ := hb
  have H1 : Hid (0 < L.length → ∃ g, p = some ⟨g, 0, none⟩ ∧ B ≤ g ∧ g < w.heap.size ∧ ∀ j, j < L.length → ∀ o, o < 9 → w.cell? ⟨g, j * 9 + o, none⟩ = some (frR L j o) ∧ w.frozen? ⟨g, j * 9 + o, none⟩ = false) := h1
  have H2 : Hid (0 < L.length → ∃ g, p' = some ⟨g, 0, none⟩ ∧ B' ≤ g ∧ g < w.heap.size ∧ ∀ j, j < L.length → ∀ o, o < 9 → w.cell? ⟨g, j * 9 + o, none⟩ = some (frR L j o) ∧ w.frozen? ⟨g, j * 9 + o, none⟩ = false) := h2
  clear h1 h2
  go_enter Tryz.func46, Tryz.ntmps46
  go_wp2
  go_loopw [5] (fun i wr => ∃ k : Nat, k ≤ L.length ∧ i = .int .i64 k ∧ Hid (Below w.heap.size w wr)) (fun i _ => L.length - (intOf i).toNat)
  case atStart => exact ⟨0, by omega, rfl, Below.refl _ _⟩
  case round =>
    obtain ⟨k, hk, rfl, HB⟩ := hrel
    by_cases hlt : k < L.length
    · obtain ⟨g, rfl, -, hg, hc⟩ := H1.out (by omega)
      obtain ⟨g', rfl, -, hg', hc'⟩ := H2.out (by omega)
      have hgr : g < wr.heap.size := Nat.lt_of_lt_of_le hg HB.out.size
      have hgr' : g' < wr.heap.size := Nat.lt_of_lt_of_le hg' HB.out.size
      have hx : ∀ o, o < 9 → wr.cell? ⟨g, k * 9 + o, none⟩ = some (frC (atF L k) o) := fun o ho => by rw [(bcell HB.out).1 _ _ hg]; exact (hc k hlt o ho).1
      have hx' : ∀ o, o < 9 → wr.cell? ⟨g', k * 9 + o, none⟩ = some (frC (atF L k) o) := fun o ho => by rw [(bcell HB.out).1 _ _ hg']; exact (hc' k hlt o ho).1
      have c0 : wr.cell? ⟨g, k * 9, none⟩ = some (.int .i64 (atF L k).id) := hx 0 (by omega)
      have d0 : wr.cell? ⟨g', k * 9, none⟩ = some (.int .i64 (atF L k).id) := hx' 0 (by omega)
      have c1 : wr.cell? ⟨g, k * 9 + 1, none⟩ = some (.int .i64 (atF L k).pa) := hx 1 (by omega)
      have d1 : wr.cell? ⟨g', k * 9 + 1, none⟩ = some (.int .i64 (atF L k).pa) := hx' 1 (by omega)
      have c2 : wr.cell? ⟨g, k * 9 + 2, none⟩ = some (.string (atF L k).sc) := hx 2 (by omega)
      have d2 : wr.cell? ⟨g', k * 9 + 2, none⟩ = some (.string (atF L k).sc) := hx' 2 (by omega)
      have c3 : wr.cell? ⟨g, k * 9 + 3, none⟩ = some (.string (atF L k).ho) := hx 3 (by omega)
      have d3 : wr.cell? ⟨g', k * 9 + 3, none⟩ = some (.string (atF L k).ho) := hx' 3 (by omega)
      have c4 : wr.cell? ⟨g, k * 9 + 4, none⟩ = some (.int .i64 (atF L k).po) := hx 4 (by omega)
      have d4 : wr.cell? ⟨g', k * 9 + 4, none⟩ = some (.int .i64 (atF L k).po) := hx' 4 (by omega)
      have c5 : wr.cell? ⟨g, k * 9 + 5, none⟩ = some (.string (atF L k).pt) := hx 5 (by omega)
      have d5 : wr.cell? ⟨g', k * 9 + 5, none⟩ = some (.string (atF L k).pt) := hx' 5 (by omega)
      have c6 : wr.cell? ⟨g, k * 9 + 6, none⟩ = some (.bool (atF L k).sb) := hx 6 (by omega)
      have d6 : wr.cell? ⟨g', k * 9 + 6, none⟩ = some (.bool (atF L k).sb) := hx' 6 (by omega)
      have c7 : wr.cell? ⟨g, k * 9 + 7, none⟩ = some (.bool (atF L k).fl) := hx 7 (by omega)
      have d7 : wr.cell? ⟨g', k * 9 + 7, none⟩ = some (.bool (atF L k).fl) := hx' 7 (by omega)
      have c8 : wr.cell? ⟨g, k * 9 + 8, none⟩ = some (.int .i64 (atF L k).tc) := hx 8 (by omega)
      have d8 : wr.cell? ⟨g', k * 9 + 8, none⟩ = some (.int .i64 (atF L k).tc) := hx' 8 (by omega)
      have k0 : (0 : Int) ≤ k := by omega
      have k1 : (k : Int) < L.length := by omega
      clear hc hc' hx hx'
      have KE : Hid (∀ W, Calls Tryz.prog 104 #[.agg #[.int .i64 (atF L k).id, .int .i64 (atF L k).pa, .string (atF L k).sc, .string (atF L k).ho, .int .i64 (atF L k).po, .string (atF L k).pt, .bool (atF L k).sb, .bool (atF L k).fl, .int .i64 (atF L k).tc], .agg #[.int .i64 (atF L k).id, .int .i64 (atF L k).pa, .string (atF L k).sc, .string (atF L k).ho, .int .i64 (atF L k).po, .string (atF L k).pt, .bool (atF L k).sb, .bool (atF L k).fl, .int .i64 (atF L k).tc]] W fun e w' => e = .returned (.bool true) ∧ Below W.heap.size W w') := fun W => eqFrame_any (atF L k).id (atF L k).pa (atF L k).sc (atF L k).ho (atF L k).po (atF L k).pt (atF L k).sb (atF L k).fl (atF L k).tc W
      generalize atF L k = y at *
      obtain ⟨id, pa, sc, ho, po, pt, sb, fl, tc⟩ := y
      dsimp only at *
      go_wp2_with fail
      go_region_held3 (fun w' => w'.cell? ⟨g, k * 9, none⟩ = some (.int .i64 id) ∧ w'.cell? ⟨g, k * 9 + 1, none⟩ = some (.int .i64 pa) ∧ w'.cell? ⟨g, k * 9 + 2, none⟩ = some (.string sc) ∧ w'.cell? ⟨g, k * 9 + 3, none⟩ = some (.string ho) ∧ w'.cell? ⟨g, k * 9 + 4, none⟩ = some (.int .i64 po) ∧ w'.cell? ⟨g, k * 9 + 5, none⟩ = some (.string pt) ∧ w'.cell? ⟨g, k * 9 + 6, none⟩ = some (.bool sb) ∧ w'.cell? ⟨g, k * 9 + 7, none⟩ = some (.bool fl) ∧ w'.cell? ⟨g, k * 9 + 8, none⟩ = some (.int .i64 tc) ∧ w'.cell? ⟨g', k * 9, none⟩ = some (.int .i64 id) ∧ w'.cell? ⟨g', k * 9 + 1, none⟩ = some (.int .i64 pa) ∧ w'.cell? ⟨g', k * 9 + 2, none⟩ = some (.string sc) ∧ w'.cell? ⟨g', k * 9 + 3, none⟩ = some (.string ho) ∧ w'.cell? ⟨g', k * 9 + 4, none⟩ = some (.int .i64 po) ∧ w'.cell? ⟨g', k * 9 + 5, none⟩ = some (.string pt) ∧ w'.cell? ⟨g', k * 9 + 6, none⟩ = some (.bool sb) ∧ w'.cell? ⟨g', k * 9 + 7, none⟩ = some (.bool fl) ∧ w'.cell? ⟨g', k * 9 + 8, none⟩ = some (.int .i64 tc)) (go_keep)
        (first | (go_at_call 104; refine (KE.out _).mono ?_; rintro e w2 ⟨rfl, hb2⟩; have A2 : Below wr.heap.size wr w2 := (Below.drew (Below.refl _ _)).trans hb2; have l0 : w2.cell? ⟨g, k * 9, none⟩ = some (.int .i64 id) := ((bcell A2).1 _ _ hgr).trans c0; have m0 : w2.cell? ⟨g', k * 9, none⟩ = some (.int .i64 id) := ((bcell A2).1 _ _ hgr').trans d0; have l1 : w2.cell? ⟨g, k * 9 + 1, none⟩ = some (.int .i64 pa) := ((bcell A2).1 _ _ hgr).trans c1; have m1 : w2.cell? ⟨g', k * 9 + 1, none⟩ = some (.int .i64 pa) := ((bcell A2).1 _ _ hgr').trans d1; have l2 : w2.cell? ⟨g, k * 9 + 2, none⟩ = some (.string sc) := ((bcell A2).1 _ _ hgr).trans c2; have m2 : w2.cell? ⟨g', k * 9 + 2, none⟩ = some (.string sc) := ((bcell A2).1 _ _ hgr').trans d2; have l3 : w2.cell? ⟨g, k * 9 + 3, none⟩ = some (.string ho) := ((bcell A2).1 _ _ hgr).trans c3; have m3 : w2.cell? ⟨g', k * 9 + 3, none⟩ = some (.string ho) := ((bcell A2).1 _ _ hgr').trans d3; have l4 : w2.cell? ⟨g, k * 9 + 4, none⟩ = some (.int .i64 po) := ((bcell A2).1 _ _ hgr).trans c4; have m4 : w2.cell? ⟨g', k * 9 + 4, none⟩ = some (.int .i64 po) := ((bcell A2).1 _ _ hgr').trans d4; have l5 : w2.cell? ⟨g, k * 9 + 5, none⟩ = some (.string pt) := ((bcell A2).1 _ _ hgr).trans c5; have m5 : w2.cell? ⟨g', k * 9 + 5, none⟩ = some (.string pt) := ((bcell A2).1 _ _ hgr').trans d5; have l6 : w2.cell? ⟨g, k * 9 + 6, none⟩ = some (.bool sb) := ((bcell A2).1 _ _ hgr).trans c6; have m6 : w2.cell? ⟨g', k * 9 + 6, none⟩ = some (.bool sb) := ((bcell A2).1 _ _ hgr').trans d6; have l7 : w2.cell? ⟨g, k * 9 + 7, none⟩ = some (.bool fl) := ((bcell A2).1 _ _ hgr).trans c7; have m7 : w2.cell? ⟨g', k * 9 + 7, none⟩ = some (.bool fl) := ((bcell A2).1 _ _ hgr').trans d7; have l8 : w2.cell? ⟨g, k * 9 + 8, none⟩ = some (.int .i64 tc) := ((bcell A2).1 _ _ hgr).trans c8; have m8 : w2.cell? ⟨g', k * 9 + 8, none⟩ = some (.int .i64 tc) := ((bcell A2).1 _ _ hgr').trans d8))
      all_goals go_wp2
      all_goals go_roundw
      case rel => exact ⟨k + 1, by omega, by go_num, HB.out.trans (A2.mono HB.out.size)⟩
      case measure => simp [intOf]; omega
    · go_wp2
      go_ret
      exact ⟨rfl, HB.out⟩
end Go.Proofs.YtaccgciopmclhaaGreatDoor

/- Entry: the structure. Written by rowsin.py. -/
namespace Go.Proofs.YtaccgciopmclhaaGreatDoor
open Go.RowKit

structure En where
  ke : ByteArray
  na : ByteArray
  va : ByteArray
/-- the value of a field, by its place -/
def enC (c : En) (o : Nat) : Value := if o = 0 then .string c.ke else if o = 1 then .string c.na else .string c.va
/-- as a value -/
def enV (c : En) : Value := .agg #[.string c.ke, .string c.na, .string c.va]
def enNone : En := ⟨⟨#[]⟩, ⟨#[]⟩, ⟨#[]⟩⟩
end Go.Proofs.YtaccgciopmclhaaGreatDoor

/- What the laws do with a Entry besides their calls: its size is looked at, it is handed on field by field, two are held against each other. -/
namespace Go.Proofs.YtaccgciopmclhaaGreatDoor
open Go.RowKit

set_option maxRecDepth 10000 in
set_option maxHeartbeats 1000000 in
theorem szEntry_at (x0 : ByteArray) (x1 : ByteArray) (x2 : ByteArray) (l : Int) (w : World) (h0 : x0.size ≤ maxLen) (h1 : x1.size ≤ maxLen) (h2 : x2.size ≤ maxLen) (l0 : 0 ≤ l) (l1 : l ≤ 1048576) :
    Calls Tryz.prog 71 #[.agg #[.string x0, .string x1, .string x2], .int .i64 l] w fun e w' => (∃ r : Int, e = .returned (.int .i64 r) ∧ (r < 0 ∨ (0 ≤ r ∧ r ≤ 1048576 ∧ x0.size + x1.size + x2.size ≤ 1048576))) ∧ Below w.heap.size w w' := by
  unfold maxLen at h0 h1 h2
  by_cases c0 : l < x0.size
  · have q0 : l - (x0.size : Int) < 0 := by omega
    go_enter Tryz.func71, Tryz.ntmps71
    go_wp2
    go_ret
    exact ⟨⟨-1, rfl, .inl (by omega)⟩, (Below.refl _ _).alloc (Nat.le_refl _) _⟩
  have q0 : decide (l - (x0.size : Int) < 0) = false := by rw [decide_eq_false_iff_not]; omega
  by_cases c1 : l < x0.size + x1.size
  · have q1 : l - (x0.size : Int) - (x1.size : Int) < 0 := by omega
    go_enter Tryz.func71, Tryz.ntmps71
    go_wp2
    go_ret
    exact ⟨⟨-1, rfl, .inl (by omega)⟩, (Below.refl _ _).alloc (Nat.le_refl _) _⟩
  have q1 : decide (l - (x0.size : Int) - (x1.size : Int) < 0) = false := by rw [decide_eq_false_iff_not]; omega
  by_cases c2 : l < x0.size + x1.size + x2.size
  · have q2 : l - (x0.size : Int) - (x1.size : Int) - (x2.size : Int) < 0 := by omega
    go_enter Tryz.func71, Tryz.ntmps71
    go_wp2
    go_ret
    exact ⟨⟨-1, rfl, .inl (by omega)⟩, (Below.refl _ _).alloc (Nat.le_refl _) _⟩
  have q2 : decide (l - (x0.size : Int) - (x1.size : Int) - (x2.size : Int) < 0) = false := by rw [decide_eq_false_iff_not]; omega
  go_enter Tryz.func71, Tryz.ntmps71
  go_wp2
  go_ret
  exact ⟨⟨l - (x0.size : Int) - (x1.size : Int) - (x2.size : Int), rfl, .inr ⟨by omega, by omega, by omega⟩⟩, (Below.refl _ _).alloc (Nat.le_refl _) _⟩
set_option maxRecDepth 10000 in
set_option maxHeartbeats 1000000 in
theorem toEntry_any (x0 : ByteArray) (x1 : ByteArray) (x2 : ByteArray) (w : World) :
    Calls Tryz.prog 88 #[.agg #[.string x0, .string x1, .string x2]] w fun e w' => e = .returned (.agg #[.string x0, .string x1, .string x2]) ∧ Below w.heap.size w w' := by
  go_enter Tryz.func88, Tryz.ntmps88
  go_wp2
  exact bodyPost_ret (v := .agg #[.string x0, .string x1, .string x2]) (by simp [results, Tryz.results88, go_sem]) rfl ⟨rfl, (((Below.refl _ _).alloc (Nat.le_refl _) _).alloc (by simp) _).alloc (by simp; omega) _⟩
set_option maxRecDepth 10000 in
set_option maxHeartbeats 1000000 in
theorem eqEntry_any (x0 : ByteArray) (x1 : ByteArray) (x2 : ByteArray) (w : World) :
    Calls Tryz.prog 106 #[.agg #[.string x0, .string x1, .string x2], .agg #[.string x0, .string x1, .string x2]] w fun e w' => e = .returned (.bool true) ∧ Below w.heap.size w w' := by
  go_enter Tryz.func106, Tryz.ntmps106
  go_wp2
  go_ret
  exact ⟨rfl, ((Below.refl _ _).alloc (Nat.le_refl _) _).alloc (by simp) _⟩
end Go.Proofs.YtaccgciopmclhaaGreatDoor

/- A struct of 3 one-cell fields, by value, opened. -/
namespace Go.Proofs.YtaccgciopmclhaaGreatDoor
open Go.ChangeShapes Go.WideShapes Go.ChangeAt Go.RowKit Go.Joins Go.Deep

theorem array3 {α : Type} {cs : Array α} (h : cs.size = 3) : ∃ c0 c1 c2, cs = #[c0, c1, c2] := by
  obtain ⟨l⟩ := cs
  match l, h with
  | [c0, c1, c2], _ => exact ⟨c0, c1, c2, rfl⟩
theorem trod_struct3 {H : Type} {enc : TypeId × Value → H} {P : Program} {w : World} {base : Nat} {spare : Nat → Bool} {held : Bool} {t : TypeId} {f0 f1 f2 : Field} {fuel : Nat} {cs : List Value} {x : DataW H × List MemPlace} (ht : P.underlying t = some (.struct #[f0, f1, f2])) (h : DataW.trod enc P w base spare held fuel t cs = some x) :
    ∃ (y0 y1 y2 : DataW H × List MemPlace) (n : Nat), DataW.trod enc P w base spare held n f0.type ((cs.drop f0.offset).take (P.cellsOf f0.type)) = some y0 ∧ DataW.trod enc P w base spare held n f1.type ((cs.drop f1.offset).take (P.cellsOf f1.type)) = some y1 ∧ DataW.trod enc P w base spare held n f2.type ((cs.drop f2.offset).take (P.cellsOf f2.type)) = some y2 := by
  obtain ⟨xs, n, _, rfl, hl, hlen, hf⟩ := DataW.trod_struct ht h
  match xs, hlen with
  | [y0, y1, y2], _ => exact ⟨y0, y1, y2, n, by simpa using hf 0 f0 rfl, by simpa using hf 1 f1 rfl, by simpa using hf 2 f2 rfl⟩
theorem open_agg3 {H : Type} {enc : TypeId × Value → H} {P : Program} {w : World} {base : Nat} {spare : Nat → Bool} {held : Bool} {r : Reach} {b0 : Nat} {t : TypeId} {f0 f1 f2 : Field} {v : Value} {d : DataW H} {p : List MemPlace} (hs : P.underlying t = some (.struct #[f0, f1, f2])) (hone : oneCellFields P #[f0, f1, f2] = true) (hC : P.cellsOf t = 3)
    (hv : Value.okWide P w r b0 t v) (h : DataW.Trod enc P w base spare held t v d p) :
    ∃ (c0 c1 c2 : Value) (y0 y1 y2 : DataW H × List MemPlace) (n : Nat), v = .agg #[c0, c1, c2] ∧ DataW.trod enc P w base spare held n f0.type [c0] = some y0 ∧ DataW.trod enc P w base spare held n f1.type [c1] = some y1 ∧ DataW.trod enc P w base spare held n f2.type [c2] = some y2 := by
  obtain ⟨cs, rfl, hsz⟩ := okWide_struct hs hv
  obtain ⟨c0, c1, c2, rfl⟩ := array3 (hsz.trans hC)
  obtain ⟨fuel, hf⟩ := h
  obtain ⟨y0, y1, y2, n, h0, h1, h2⟩ := trod_struct3 hs hf
  obtain ⟨o0, k0⟩ := hone_of hone 0 f0 rfl
  obtain ⟨o1, k1⟩ := hone_of hone 1 f1 rfl
  obtain ⟨o2, k2⟩ := hone_of hone 2 f2 rfl
  exact ⟨c0, c1, c2, y0, y1, y2, n, rfl, by simpa [Value.cells, o0, k0] using h0, by simpa [Value.cells, o1, k1] using h1, by simpa [Value.cells, o2, k2] using h2⟩
end Go.Proofs.YtaccgciopmclhaaGreatDoor

/- Slices of entrys; a slice of entrys that came in; the laws' szEntryS, toEntryS and eqEntryS over it. Written by rowsin.py. -/
namespace Go.Proofs.YtaccgciopmclhaaGreatDoor
open Go.ChangeShapes Go.WideShapes Go.ChangeAt Go.RowKit Go.Joins Go.Deep

theorem en_wf {n : Int} (h : (Lit.int .i64 n).wf = true) : -9223372036854775808 ≤ n ∧ n ≤ 9223372036854775807 := by
  simp [Lit.wf] at h
  have e1 : IntKind.i64.min = -9223372036854775808 := by decide
  have e2 : IntKind.i64.max = 9223372036854775807 := by decide
  omega
def atE (L : List En) (j : Nat) : En := L.getD j enNone
/-- the cells of entrys -/
def enR (L : List En) (j o : Nat) : Value := enC (atE L j) o
/-- a slice of entrys -/
def SliceE (w : World) (B : Nat) (v : Value) (L : List En) : Prop := SliceR w B 3 v L.length (enR L) ∧ ∃ p c, v = .slice p L.length c ∧ L.length ≤ c ∧ (p = none → c = 0)
theorem SliceE.below {w w' : World} {B : Nat} {v : Value} {L : List En} (h : SliceE w B v L) (hb : Below w.heap.size w w') : SliceE w' B v L := ⟨h.1.below hb, h.2⟩
theorem SliceE.mono {w : World} {B B' : Nat} {v : Value} {L : List En} (h : SliceE w B v L) (hB : B' ≤ B) : SliceE w B' v L := ⟨h.1.mono hB, h.2⟩
theorem trod_cellsEn {H : Type} {enc : TypeId × Value → H} {P : Program} {w : World} {base : Nat} {spare : Nat → Bool} {held : Bool} {t : TypeId} {f0 f1 f2 : Field} {fuel : Nat} {v0 v1 v2 : Value} {x : DataW H × List MemPlace} (ht : P.underlying t = some (.struct #[f0, f1, f2])) (hone : oneCellFields P #[f0, f1, f2] = true) (h : DataW.trod enc P w base spare held fuel t [v0, v1, v2] = some x) :
    ∃ (y0 y1 y2 : DataW H × List MemPlace) (n : Nat), DataW.trod enc P w base spare held n f0.type [v0] = some y0 ∧ DataW.trod enc P w base spare held n f1.type [v1] = some y1 ∧ DataW.trod enc P w base spare held n f2.type [v2] = some y2 := by
  obtain ⟨y0, y1, y2, n, h0, h1, h2⟩ := trod_struct3 ht h
  obtain ⟨o0, k0⟩ := hone_of hone 0 f0 rfl
  obtain ⟨o1, k1⟩ := hone_of hone 1 f1 rfl
  obtain ⟨o2, k2⟩ := hone_of hone 2 f2 rfl
  exact ⟨y0, y1, y2, n, by simpa [o0, k0] using h0, by simpa [o1, k1] using h1, by simpa [o2, k2] using h2⟩
/-- entrys that a slice leads to -/
def EnRow (w : World) (a : Option Addr) (L : List En) : Prop := ∀ i, i < L.length → ∃ x, a = some x ∧ x.block < w.heap.size ∧ (∀ o, o < 3 → w.cell? (x.add (i * 3 + o)) = some (enC (atE L i) o)) ∧ (atE L i).ke.size ≤ maxLen ∧ (atE L i).na.size ≤ maxLen ∧ (atE L i).va.size ≤ maxLen ∧ True
theorem EnRow.below {w w' : World} {a : Option Addr} {L : List En} (h : EnRow w a L) (hb : Below w.heap.size w w') : EnRow w' a L := by
  intro i hi
  obtain ⟨x, e, hx, hc, hs⟩ := h i hi
  exact ⟨x, e, Nat.lt_of_lt_of_le hx hb.size, fun o ho => by rw [hb.cell (p := x.add (i * 3 + o)) (by rw [addr_blk]; exact hx)]; exact hc o ho, hs⟩
theorem listEn {α : Type} {cs : List α} (h : cs.length = 3) : ∃ c0 c1 c2, cs = [c0, c1, c2] := by
  match cs, h with
  | [c0, c1, c2], _ => exact ⟨c0, c1, c2, rfl⟩
set_option maxRecDepth 10000 in
set_option maxHeartbeats 4000000 in
theorem enRow_of {H : Type} {enc : TypeId × Value → H} {W : World} {a : Option Addr} {len cap : Nat} {d : DataW H} {p : List MemPlace}
    (h : ∃ fuel, DataW.trod enc Tryz.prog W 0 (fun _ => true) true fuel 26 (Value.slice a len cap).cells.toList = some (d, p)) : (∃ L, L.length = len ∧ EnRow W a L) ∧ len ≤ maxLen := by
  obtain ⟨fuel, hf⟩ := h
  rcases Go.Deep.open_slice Tryz.underlying26 hf with ⟨hcs, _⟩ | ⟨x, l, c, m, n, D, Pl, hcs, _, hl, hm, hmm, _, hcell⟩
  · simp [Value.cells] at hcs
    obtain ⟨rfl, rfl, rfl⟩ := hcs
    exact ⟨⟨[], rfl, fun i hi => absurd hi (by simp)⟩, Nat.zero_le _⟩
  · simp [Value.cells] at hcs
    obtain ⟨rfl, rfl, rfl⟩ := hcs
    have hmc : m = cap := by simpa using hmm
    have ce : Tryz.prog.cellsOf 115 = 3 := by kernel_rfl
    have each : ∀ i, i < len → ∃ q : En, (∀ o, o < 3 → W.cell? (x.add (i * 3 + o)) = some (enC q o)) ∧ q.ke.size ≤ maxLen ∧ q.na.size ≤ maxLen ∧ q.va.size ≤ maxLen ∧ True := fun i hi => by
      obtain ⟨cs', h1, h2⟩ := hcell i (by omega)
      rw [ce] at h1
      obtain ⟨_, hlen, hc⟩ := World.cells?_some h1
      obtain ⟨v0, v1, v2, rfl⟩ := listEn hlen
      obtain ⟨y0, y1, y2, n', g0, g1, g2⟩ := trod_cellsEn Tryz.underlying115 (by kernel_rfl) h2
      obtain ⟨s0, e0, -, z0⟩ := DataW.trod_string Tryz.underlying9 g0
      obtain ⟨s1, e1, -, z1⟩ := DataW.trod_string Tryz.underlying9 g1
      obtain ⟨s2, e2, -, z2⟩ := DataW.trod_string Tryz.underlying9 g2
      simp only [List.cons.injEq, and_true] at e0 e1 e2
      subst e0 e1 e2
      refine ⟨⟨s0, s1, s2⟩, fun o ho => ?_, z0, z1, z2, trivial⟩
      have hco := hc o ho
      rw [add_add] at hco
      rw [hco]
      match o, ho with
      | 0, _ => rfl
      | 1, _ => rfl
      | 2, _ => rfl
    obtain ⟨q, hq⟩ := @Go.Deep.choose_lt En ⟨enNone⟩ len _ each
    refine ⟨⟨(List.range len).map q, by simp, fun i hi => ?_⟩, by omega⟩
    have hi' : i < len := by simpa using hi
    have e : atE ((List.range len).map q) i = q i := by simp [atE, hi']
    rw [e]
    refine ⟨x, rfl, ?_, hq i hi'⟩
    have := World.block_lt_of_cell? W _ ((hq i hi').1 0 (by omega))
    rw [addr_blk] at this; exact this
set_option maxRecDepth 10000 in
set_option maxHeartbeats 4000000 in
theorem szEntryS_any (a : Option Addr) (cap : Nat) (L : List En) (l : Int) (w : World) (hr : EnRow w a L) (hn : L.length ≤ maxLen) (h0 : 0 ≤ l) (h1 : l ≤ 1048576) :
    Calls Tryz.prog 23 #[.slice a L.length cap, .int .i64 l] w fun e w' => (∃ r : Int, e = .returned (.int .i64 r) ∧ (r < 0 ∨ (0 ≤ r ∧ r ≤ 1048576 ∧ L.length ≤ 1048576 ∧ ∀ i, i < L.length → (atE L i).ke.size + (atE L i).na.size + (atE L i).va.size ≤ 1048576))) ∧ Below w.heap.size w w' := by
  unfold maxLen at hn
  by_cases hl : l < L.length
  · have q : decide (l - (L.length : Int) < 0) = true := by rw [decide_eq_true_iff]; omega
    go_enter Tryz.func23, Tryz.ntmps23
    go_wp2
    go_ret
    exact ⟨⟨_, rfl, .inl (by decide)⟩, Below.refl _ _⟩
  have q : decide (l - (L.length : Int) < 0) = false := by rw [decide_eq_false_iff_not]; omega
  have HR : Hid (EnRow w a L) := hr
  clear hr
  go_enter Tryz.func23, Tryz.ntmps23
  go_wp2
  go_loopw [1, 5] (fun v i wr => ∃ (k : Nat) (z : Int), k ≤ L.length ∧ v = .int .i64 z ∧ i = .int .i64 k ∧ 0 ≤ z ∧ z ≤ 1048576 ∧ Hid (∀ i, i < k → (atE L i).ke.size + (atE L i).na.size + (atE L i).va.size ≤ 1048576) ∧ Hid (Below w.heap.size w wr)) (fun _ i _ => L.length - (intOf i).toNat)
  case atStart => exact ⟨0, _, Nat.zero_le _, rfl, rfl, by omega, by omega, fun i hi => absurd hi (by omega), Below.refl _ _⟩
  case round =>
    obtain ⟨k, z, hk, rfl, rfl, z0, zl, HS, HB⟩ := hrel
    by_cases hlt : k < L.length
    · obtain ⟨x, rfl, hx, hc, hs0, hs1, hs2, -⟩ := HR.out.below HB.out k hlt
      have c0 : wr.cell? (x.add (k * 3)) = some (.string (atE L k).ke) := hc 0 (by omega)
      have c1 : wr.cell? ⟨(x.add (k * 3)).block, (x.add (k * 3)).off + 1, none⟩ = some (.string (atE L k).na) := by rw [show (.string (atE L k).na) = enC (atE L k) 1 from rfl, ← hc 1 (by omega), ← add_add]; rfl
      have c2 : wr.cell? ⟨(x.add (k * 3)).block, (x.add (k * 3)).off + 2, none⟩ = some (.string (atE L k).va) := by rw [show (.string (atE L k).va) = enC (atE L k) 2 from rfl, ← hc 2 (by omega), ← add_add]; rfl
      have KZ : Hid (∀ W, Calls Tryz.prog 71 #[.agg #[.string (atE L k).ke, .string (atE L k).na, .string (atE L k).va], .int .i64 z] W fun e w' => (∃ r : Int, e = .returned (.int .i64 r) ∧ (r < 0 ∨ (0 ≤ r ∧ r ≤ 1048576 ∧ (atE L k).ke.size + (atE L k).na.size + (atE L k).va.size ≤ 1048576))) ∧ Below W.heap.size W w') := fun W => szEntry_at (atE L k).ke (atE L k).na (atE L k).va z W hs0 hs1 hs2 z0 zl
      have k0 : (0 : Int) ≤ k := by omega
      have k1 : (k : Int) < L.length := by omega
      have HN : Hid ((atE L k).ke.size + (atE L k).na.size + (atE L k).va.size ≤ 1048576 → ∀ i, i < k + 1 → (atE L i).ke.size + (atE L i).na.size + (atE L i).va.size ≤ 1048576) := fun hs i hi => by
        by_cases e : i = k
        · subst e; exact hs
        · exact HS.out i (by omega)
      clear hc hs0 hs1 hs2
      generalize atE L k = y at *
      obtain ⟨ke, na, va⟩ := y
      dsimp only at *
      go_wp2_with fail
      refine (KZ.out _).mono ?_
      rintro e w1 ⟨⟨r, rfl, hr⟩, hb1⟩
      have B1 : Hid (Below w.heap.size w w1) := HB.out.trans (hb1.mono HB.out.size)
      clear hb1 c0 c1 c2
      rcases hr with hr | ⟨r0, r1, hsum⟩
      · have q2 : decide (r < 0) = true := by rw [decide_eq_true_iff]; exact hr
        go_wp2
        go_ret
        exact ⟨⟨_, rfl, .inl (by decide)⟩, B1.out⟩
      · have q2 : decide (r < 0) = false := by rw [decide_eq_false_iff_not]; omega
        have HN2 : Hid (∀ i, i < k + 1 → (atE L i).ke.size + (atE L i).na.size + (atE L i).va.size ≤ 1048576) := HN.out hsum
        clear hsum
        go_wp2
        go_roundw
        case rel => exact ⟨k + 1, r, by omega, rfl, by go_num, r0, r1, HN2, B1⟩
        case measure => simp [intOf]; omega
    · go_wp2
      go_ret
      exact ⟨⟨_, rfl, .inr ⟨z0, zl, by omega, fun i hi => HS.out i (by omega)⟩⟩, HB.out⟩
theorem infoEntry : (Tryz.prog.info? 127).map (fun i => (i.zero, i.size, i.bytes)) = some (some (.agg #[.string ⟨#[]⟩, .string ⟨#[]⟩, .string ⟨#[]⟩]), 3, 48) := by kernel_rfl
/-- the first k as they are, the others empty -/
def uptoE (L : List En) (k j o : Nat) : Value := if j < k then enC (atE L j) o else enC enNone o
theorem make_Entrys (w : World) (n : Nat) (hn : n ≤ 1048576) :
    ∃ w', Sem.run Tryz.prog (Instr.makeSlice 35 (.int .i64 (n : Int)) (.int .i64 (n : Int))) w = .ok (.slice (some ⟨w.heap.size, 0, none⟩) n n) w' ∧ SliceR w' w.heap.size 3 (.slice (some ⟨w.heap.size, 0, none⟩) n n) n (fun _ o => enC enNone o) ∧ w.heap.size < w'.heap.size ∧ Below w.heap.size w w' := by
  obtain ⟨i, h2, h3, h4, h5⟩ := info_parts infoEntry
  have hrun := run_make (P := Tryz.prog) w 35 127 i (.agg #[.string ⟨#[]⟩, .string ⟨#[]⟩, .string ⟨#[]⟩]) Tryz.underlying35 h2 h3 .i64 .i64 n n (by omega) (Int.le_refl _) (by rw [h5]; omega) (by omega)
  simp only [Int.toNat_natCast, h4] at hrun
  refine ⟨_, hrun, ?_, by simp, (Below.refl _ _).alloc (Nat.le_refl _) _⟩
  refine ⟨_, _, rfl, fun _ => ⟨w.heap.size, rfl, Nat.le_refl _, by simp, fun j hj o ho => ⟨?_, by simp⟩⟩⟩
  rw [World.cell?_alloc_new]
  have hz : j * 3 + o < n * 3 := by omega
  have hm : (j * 3 + o) % 3 = o := by omega
  have e : (madeCells (Value.agg #[.string ⟨#[]⟩, .string ⟨#[]⟩, .string ⟨#[]⟩]).cells (n * 3))[j * 3 + o]? = some (enC enNone o) := by
    rw [Array.getElem?_eq_some_iff]
    refine ⟨by rw [size_madeCells]; exact hz, ?_⟩
    unfold madeCells
    rw [Array.getElem_map, Array.getElem_range]
    show (#[.string ⟨#[]⟩, .string ⟨#[]⟩, .string ⟨#[]⟩] : Array Value)[(j * 3 + o) % 3]! = _
    rw [hm]
    match o, ho with
    | 0, _ => rfl
    | 1, _ => rfl
    | 2, _ => rfl
  exact e
/-- ten cells written: one entry put at its place -/
theorem SliceR.putEn {w : World} {B n m g cap : Nat} {f : Nat → Nat → Value} (hs : SliceR w B 3 (.slice (some ⟨g, 0, none⟩) m cap) n f) (k : Nat) (hk : k < n) (c : En) :
    SliceR (((w.setCell ⟨g, k * 3 + 0, none⟩ (.string c.ke)).setCell ⟨g, k * 3 + 1, none⟩ (.string c.na)).setCell ⟨g, k * 3 + 2, none⟩ (.string c.va)) B 3 (.slice (some ⟨g, 0, none⟩) m cap) n (fun j o => if j = k then enC c o else f j o) := by
  refine SliceR.congr (SliceR.set (SliceR.set (SliceR.set (hs) k 0 hk (by omega) _) k 1 hk (by omega) _) k 2 hk (by omega) _) (fun j hj o ho => ?_)
  by_cases e : j = k
  · subst e
    match o, ho with
    | 0, _ => simp [updR, enC]
    | 1, _ => simp [updR, enC]
    | 2, _ => simp [updR, enC]
  · simp [updR, e]
set_option maxRecDepth 10000 in
set_option maxHeartbeats 4000000 in
theorem toEntryS_any (a : Option Addr) (cap : Nat) (L : List En) (w : World) (hr : EnRow w a L) (hn : L.length ≤ 1048576) :
    Calls Tryz.prog 36 #[.slice a L.length cap] w fun e w' => ∃ v, e = .returned v ∧ SliceE w' w.heap.size v L ∧ Below w.heap.size w w' := by
  have HR : Hid (EnRow w a L) := hr
  clear hr
  obtain ⟨w1, hmk, hs1, hz1, hb1⟩ := make_Entrys w L.length hn
  have HS1 : Hid (SliceR w1 w.heap.size 3 (.slice (some ⟨w.heap.size, 0, none⟩) L.length L.length) L.length (uptoE L 0)) := SliceR.congr hs1 (fun j _ o _ => by unfold uptoE; rw [if_neg (by omega)])
  have HB1 : Hid (Below w.heap.size w w1) := hb1
  clear hs1 hb1
  go_enter Tryz.func36, Tryz.ntmps36
  go_wp2
  clear hmk
  go_loopw [4] (fun i wr => ∃ k : Nat, k ≤ L.length ∧ i = .int .i64 k ∧ Hid (SliceR wr w.heap.size 3 (.slice (some ⟨w.heap.size, 0, none⟩) L.length L.length) L.length (uptoE L k)) ∧ Hid (Below w.heap.size w wr)) (fun i _ => L.length - (intOf i).toNat)
  case atStart => exact ⟨0, Nat.zero_le _, rfl, HS1, HB1⟩
  case round =>
    obtain ⟨k, hk, rfl, HS, HB⟩ := hrel
    by_cases hlt : k < L.length
    · obtain ⟨x, rfl, hx, hc, -⟩ := HR.out.below HB.out k hlt
      have c0 : wr.cell? (x.add (k * 3)) = some (.string (atE L k).ke) := hc 0 (by omega)
      have c1 : wr.cell? ⟨(x.add (k * 3)).block, (x.add (k * 3)).off + 1, none⟩ = some (.string (atE L k).na) := by rw [show (.string (atE L k).na) = enC (atE L k) 1 from rfl, ← hc 1 (by omega), ← add_add]; rfl
      have c2 : wr.cell? ⟨(x.add (k * 3)).block, (x.add (k * 3)).off + 2, none⟩ = some (.string (atE L k).va) := by rw [show (.string (atE L k).va) = enC (atE L k) 2 from rfl, ← hc 2 (by omega), ← add_add]; rfl
      have KT : Hid (∀ W, Calls Tryz.prog 88 #[.agg #[.string (atE L k).ke, .string (atE L k).na, .string (atE L k).va]] W fun e w' => e = .returned (.agg #[.string (atE L k).ke, .string (atE L k).na, .string (atE L k).va]) ∧ Below W.heap.size W w') := fun W => toEntry_any _ _ _ W
      have HP : Hid (∀ w2 f, SliceR w2 w.heap.size 3 (.slice (some ⟨w.heap.size, 0, none⟩) L.length L.length) L.length f → SliceR (((w2.setCell ⟨w.heap.size, k * 3 + 0, none⟩ (.string (atE L k).ke)).setCell ⟨w.heap.size, k * 3 + 1, none⟩ (.string (atE L k).na)).setCell ⟨w.heap.size, k * 3 + 2, none⟩ (.string (atE L k).va)) w.heap.size 3 (.slice (some ⟨w.heap.size, 0, none⟩) L.length L.length) L.length (fun j o => if j = k then enC (atE L k) o else f j o)) := fun w2 f hh => SliceR.putEn hh k hlt (atE L k)
      have HU : Hid (∀ j o, (if j = k then enC (atE L k) o else uptoE L k j o) = uptoE L (k + 1) j o) := fun j o => by
        unfold uptoE
        by_cases e : j = k
        · subst e; rw [if_pos rfl, if_pos (by omega)]
        · rw [if_neg e]
          by_cases h : j < k
          · rw [if_pos h, if_pos (by omega)]
          · rw [if_neg h, if_neg (by omega)]
      have k0 : (0 : Int) ≤ k := by omega
      have k1 : (k : Int) < L.length := by omega
      clear hc
      generalize atE L k = y at *
      obtain ⟨ke, na, va⟩ := y
      dsimp only at *
      go_wp2_with fail
      refine (KT.out _).mono ?_
      rintro e w2 ⟨rfl, hb2⟩
      have S2 : Hid (SliceR w2 w.heap.size 3 (.slice (some ⟨w.heap.size, 0, none⟩) L.length L.length) L.length (uptoE L k)) := SliceR.below HS.out hb2
      have B2 : Hid (Below w.heap.size w w2) := HB.out.trans (hb2.mono HB.out.size)
      clear hb2 hx c0 c1 c2
      obtain ⟨d0, f0, d1, f1, d2, f2⟩ : w2.cell? ⟨w.heap.size, k * 3, none⟩ = some (uptoE L k k 0) ∧ w2.frozen? ⟨w.heap.size, k * 3, none⟩ = false ∧ w2.cell? ⟨w.heap.size, k * 3 + 1, none⟩ = some (uptoE L k k 1) ∧ w2.frozen? ⟨w.heap.size, k * 3 + 1, none⟩ = false ∧ w2.cell? ⟨w.heap.size, k * 3 + 2, none⟩ = some (uptoE L k k 2) ∧ w2.frozen? ⟨w.heap.size, k * 3 + 2, none⟩ = false := by
        obtain ⟨p, c, e, hh⟩ := S2.out
        injection e with e1
        obtain ⟨g, e2, -, -, hc⟩ := hh (by omega)
        rw [e2] at e1
        injection e1 with e1
        injection e1 with e1
        subst e1
        exact ⟨(hc k hlt 0 (by omega)).1, (hc k hlt 0 (by omega)).2, (hc k hlt 1 (by omega)).1, (hc k hlt 1 (by omega)).2, (hc k hlt 2 (by omega)).1, (hc k hlt 2 (by omega)).2⟩
      generalize uptoE L k k 0 = z0 at *
      generalize uptoE L k k 1 = z1 at *
      generalize uptoE L k k 2 = z2 at *
      have HN : Hid (SliceR (((w2.setCell ⟨w.heap.size, k * 3 + 0, none⟩ (.string ke)).setCell ⟨w.heap.size, k * 3 + 1, none⟩ (.string na)).setCell ⟨w.heap.size, k * 3 + 2, none⟩ (.string va)) w.heap.size 3 (.slice (some ⟨w.heap.size, 0, none⟩) L.length L.length) L.length (uptoE L (k + 1))) := SliceR.congr (HP.out w2 _ S2.out) (fun j hj o ho => HU.out j o)
      go_wp2
      go_roundw
      case rel => exact ⟨k + 1, by omega, by go_num, HN, ((B2.out.setCell (Nat.le_refl _) _).setCell (Nat.le_refl _) _).setCell (Nat.le_refl _) _⟩
      case measure => simp [intOf]; omega
    · go_wp2
      go_ret
      refine ⟨_, rfl, ⟨?_, _, _, rfl, Nat.le_refl _, fun h => by cases h⟩, HB.out⟩
      exact SliceR.congr HS.out (fun j hj o ho => by unfold uptoE enR; rw [if_pos (by omega)])
set_option maxRecDepth 10000 in
set_option maxHeartbeats 8000000 in
theorem eqEntryS_any (a b : Value) (L : List En) (B B' : Nat) (w : World) (ha : SliceE w B a L) (hb : SliceE w B' b L) (hn : L.length ≤ 1048576) :
    Calls Tryz.prog 48 #[a, b] w fun e w' => e = .returned (.bool true) ∧ Below w.heap.size w w' := by
  obtain ⟨⟨p, cap, rfl, h1⟩, -⟩ := ha
  obtain ⟨⟨p', cap', rfl, h2⟩, -⟩ := hb
  have H1 : Hid (0 < L.length → ∃ g, p = some ⟨g, 0, none⟩ ∧ B ≤ g ∧ g < w.heap.size ∧ ∀ j, j < L.length → ∀ o, o < 3 → w.cell? ⟨g, j * 3 + o, none⟩ = some (enR L j o) ∧ w.frozen? ⟨g, j * 3 + o, none⟩ = false) := h1
  have H2 : Hid (0 < L.length → ∃ g, p' = some ⟨g, 0, none⟩ ∧ B' ≤ g ∧ g < w.heap.size ∧ ∀ j, j < L.length → ∀ o, o < 3 → w.cell? ⟨g, j * 3 + o, none⟩ = some (enR L j o) ∧ w.frozen? ⟨g, j * 3 + o, none⟩ = false) := h2
  clear h1 h2
  go_enter Tryz.func48, Tryz.ntmps48
  go_wp2
  go_loopw [5] (fun i wr => ∃ k : Nat, k ≤ L.length ∧ i = .int .i64 k ∧ Hid (Below w.heap.size w wr)) (fun i _ => L.length - (intOf i).toNat)
  case atStart => exact ⟨0, by omega, rfl, Below.refl _ _⟩
  case round =>
    obtain ⟨k, hk, rfl, HB⟩ := hrel
    by_cases hlt : k < L.length
    · obtain ⟨g, rfl, -, hg, hc⟩ := H1.out (by omega)
      obtain ⟨g', rfl, -, hg', hc'⟩ := H2.out (by omega)
      have hgr : g < wr.heap.size := Nat.lt_of_lt_of_le hg HB.out.size
      have hgr' : g' < wr.heap.size := Nat.lt_of_lt_of_le hg' HB.out.size
      have hx : ∀ o, o < 3 → wr.cell? ⟨g, k * 3 + o, none⟩ = some (enC (atE L k) o) := fun o ho => by rw [(bcell HB.out).1 _ _ hg]; exact (hc k hlt o ho).1
      have hx' : ∀ o, o < 3 → wr.cell? ⟨g', k * 3 + o, none⟩ = some (enC (atE L k) o) := fun o ho => by rw [(bcell HB.out).1 _ _ hg']; exact (hc' k hlt o ho).1
      have c0 : wr.cell? ⟨g, k * 3, none⟩ = some (.string (atE L k).ke) := hx 0 (by omega)
      have d0 : wr.cell? ⟨g', k * 3, none⟩ = some (.string (atE L k).ke) := hx' 0 (by omega)
      have c1 : wr.cell? ⟨g, k * 3 + 1, none⟩ = some (.string (atE L k).na) := hx 1 (by omega)
      have d1 : wr.cell? ⟨g', k * 3 + 1, none⟩ = some (.string (atE L k).na) := hx' 1 (by omega)
      have c2 : wr.cell? ⟨g, k * 3 + 2, none⟩ = some (.string (atE L k).va) := hx 2 (by omega)
      have d2 : wr.cell? ⟨g', k * 3 + 2, none⟩ = some (.string (atE L k).va) := hx' 2 (by omega)
      have k0 : (0 : Int) ≤ k := by omega
      have k1 : (k : Int) < L.length := by omega
      clear hc hc' hx hx'
      have KE : Hid (∀ W, Calls Tryz.prog 106 #[.agg #[.string (atE L k).ke, .string (atE L k).na, .string (atE L k).va], .agg #[.string (atE L k).ke, .string (atE L k).na, .string (atE L k).va]] W fun e w' => e = .returned (.bool true) ∧ Below W.heap.size W w') := fun W => eqEntry_any (atE L k).ke (atE L k).na (atE L k).va W
      generalize atE L k = y at *
      obtain ⟨ke, na, va⟩ := y
      dsimp only at *
      go_wp2_with fail
      go_region_held3 (fun w' => w'.cell? ⟨g, k * 3, none⟩ = some (.string ke) ∧ w'.cell? ⟨g, k * 3 + 1, none⟩ = some (.string na) ∧ w'.cell? ⟨g, k * 3 + 2, none⟩ = some (.string va) ∧ w'.cell? ⟨g', k * 3, none⟩ = some (.string ke) ∧ w'.cell? ⟨g', k * 3 + 1, none⟩ = some (.string na) ∧ w'.cell? ⟨g', k * 3 + 2, none⟩ = some (.string va)) (go_keep)
        (first | (go_at_call 106; refine (KE.out _).mono ?_; rintro e w2 ⟨rfl, hb2⟩; have A2 : Below wr.heap.size wr w2 := (Below.drew (Below.refl _ _)).trans hb2; have l0 : w2.cell? ⟨g, k * 3, none⟩ = some (.string ke) := ((bcell A2).1 _ _ hgr).trans c0; have m0 : w2.cell? ⟨g', k * 3, none⟩ = some (.string ke) := ((bcell A2).1 _ _ hgr').trans d0; have l1 : w2.cell? ⟨g, k * 3 + 1, none⟩ = some (.string na) := ((bcell A2).1 _ _ hgr).trans c1; have m1 : w2.cell? ⟨g', k * 3 + 1, none⟩ = some (.string na) := ((bcell A2).1 _ _ hgr').trans d1; have l2 : w2.cell? ⟨g, k * 3 + 2, none⟩ = some (.string va) := ((bcell A2).1 _ _ hgr).trans c2; have m2 : w2.cell? ⟨g', k * 3 + 2, none⟩ = some (.string va) := ((bcell A2).1 _ _ hgr').trans d2))
      all_goals go_wp2
      all_goals go_roundw
      case rel => exact ⟨k + 1, by omega, by go_num, HB.out.trans (A2.mono HB.out.size)⟩
      case measure => simp [intOf]; omega
    · go_wp2
      go_ret
      exact ⟨rfl, HB.out⟩
end Go.Proofs.YtaccgciopmclhaaGreatDoor

/- Grant: the structure. Written by rowsin.py. -/
namespace Go.Proofs.YtaccgciopmclhaaGreatDoor
open Go.RowKit

structure Gr where
  tp : ByteArray
  si : ByteArray
  un : Int
/-- the value of a field, by its place -/
def grC (c : Gr) (o : Nat) : Value := if o = 0 then .string c.tp else if o = 1 then .string c.si else .int .i64 c.un
/-- as a value -/
def grV (c : Gr) : Value := .agg #[.string c.tp, .string c.si, .int .i64 c.un]
def grNone : Gr := ⟨⟨#[]⟩, ⟨#[]⟩, 0⟩
end Go.Proofs.YtaccgciopmclhaaGreatDoor
