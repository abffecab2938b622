/- 7 of this claim's texts, one behind the other. -/
import Derived.Test.YtfoekelhcmlagaaDoorPart1
import Derived.Deep.Slices
import Derived.Laws.AppendOwn
import Derived.Deep.RegionHeld3
/- Slices of cookies; a slice of cookies that came in; the laws' szCookieS, toCookieS and eqCookieS over it. Written by cookiesin.py. -/
namespace Go.Proofs.YtfoekelhcmlagaaDoor
open Go.ChangeShapes Go.WideShapes Go.ChangeAt Go.RowKit Go.Joins Go.Deep

theorem ck_wf {n : Int} (h : (Lit.int .i64 n).wf = true) : -9223372036854775808 ≤ n ∧ n ≤ 9223372036854775807 := by
  simp [Lit.wf] at h
  have e1 : IntKind.i64.min = -9223372036854775808 := by decide
  have e2 : IntKind.i64.max = 9223372036854775807 := by decide
  omega
def atC (L : List Ck) (j : Nat) : Ck := L.getD j ckNone
/-- the cells of cookies -/
def ckR (L : List Ck) (j o : Nat) : Value := ckC (atC L j) o
/-- a slice of cookies -/
def SliceC (w : World) (B : Nat) (v : Value) (L : List Ck) : Prop := SliceR w B 10 v L.length (ckR L) ∧ ∃ p c, v = .slice p L.length c ∧ L.length ≤ c
theorem SliceC.below {w w' : World} {B : Nat} {v : Value} {L : List Ck} (h : SliceC w B v L) (hb : Below w.heap.size w w') : SliceC w' B v L := ⟨h.1.below hb, h.2⟩
theorem SliceC.mono {w : World} {B B' : Nat} {v : Value} {L : List Ck} (h : SliceC w B v L) (hB : B' ≤ B) : SliceC w B' v L := ⟨h.1.mono hB, h.2⟩
theorem trod_cells10 {H : Type} {enc : TypeId × Value → H} {P : Program} {w : World} {base : Nat} {spare : Nat → Bool} {held : Bool} {t : TypeId} {f0 f1 f2 f3 f4 f5 f6 f7 f8 f9 : Field} {fuel : Nat} {v0 v1 v2 v3 v4 v5 v6 v7 v8 v9 : Value} {x : DataW H × List MemPlace} (ht : P.underlying t = some (.struct #[f0, f1, f2, f3, f4, f5, f6, f7, f8, f9])) (hone : oneCellFields P #[f0, f1, f2, f3, f4, f5, f6, f7, f8, f9] = true) (h : DataW.trod enc P w base spare held fuel t [v0, v1, v2, v3, v4, v5, v6, v7, v8, v9] = some x) :
    ∃ (y0 y1 y2 y3 y4 y5 y6 y7 y8 y9 : DataW H × List MemPlace) (n : Nat), DataW.trod enc P w base spare held n f0.type [v0] = some y0 ∧ DataW.trod enc P w base spare held n f1.type [v1] = some y1 ∧ DataW.trod enc P w base spare held n f2.type [v2] = some y2 ∧ DataW.trod enc P w base spare held n f3.type [v3] = some y3 ∧ DataW.trod enc P w base spare held n f4.type [v4] = some y4 ∧ DataW.trod enc P w base spare held n f5.type [v5] = some y5 ∧ DataW.trod enc P w base spare held n f6.type [v6] = some y6 ∧ DataW.trod enc P w base spare held n f7.type [v7] = some y7 ∧ DataW.trod enc P w base spare held n f8.type [v8] = some y8 ∧ DataW.trod enc P w base spare held n f9.type [v9] = some y9 := by
  obtain ⟨y0, y1, y2, y3, y4, y5, y6, y7, y8, y9, n, h0, h1, h2, h3, h4, h5, h6, h7, h8, h9⟩ := trod_struct10 ht h
  obtain ⟨o0, k0⟩ := hone_of hone 0 f0 rfl
  obtain ⟨o1, k1⟩ := hone_of hone 1 f1 rfl
  obtain ⟨o2, k2⟩ := hone_of hone 2 f2 rfl
  obtain ⟨o3, k3⟩ := hone_of hone 3 f3 rfl
  obtain ⟨o4, k4⟩ := hone_of hone 4 f4 rfl
  obtain ⟨o5, k5⟩ := hone_of hone 5 f5 rfl
  obtain ⟨o6, k6⟩ := hone_of hone 6 f6 rfl
  obtain ⟨o7, k7⟩ := hone_of hone 7 f7 rfl
  obtain ⟨o8, k8⟩ := hone_of hone 8 f8 rfl
  obtain ⟨o9, k9⟩ := hone_of hone 9 f9 rfl
  exact ⟨y0, y1, y2, y3, y4, y5, y6, y7, y8, y9, n, by simpa [o0, k0] using h0, by simpa [o1, k1] using h1, by simpa [o2, k2] using h2, by simpa [o3, k3] using h3, by simpa [o4, k4] using h4, by simpa [o5, k5] using h5, by simpa [o6, k6] using h6, by simpa [o7, k7] using h7, by simpa [o8, k8] using h8, by simpa [o9, k9] using h9⟩
/-- cookies that a slice leads to -/
def CkRow (w : World) (a : Option Addr) (L : List Ck) : Prop := ∀ i, i < L.length → ∃ x, a = some x ∧ x.block < w.heap.size ∧ (∀ o, o < 10 → w.cell? (x.add (i * 10 + o)) = some (ckC (atC L i) o)) ∧ (atC L i).na.size ≤ maxLen ∧ (atC L i).va.size ≤ maxLen ∧ (atC L i).ho.size ≤ maxLen ∧ (atC L i).pa.size ≤ maxLen ∧ (atC L i).pt.size ≤ maxLen ∧ -9223372036854775808 ≤ (atC L i).mo ∧ (atC L i).mo ≤ 9223372036854775807 ∧ -9223372036854775808 ≤ (atC L i).un ∧ (atC L i).un ≤ 9223372036854775807 ∧ -9223372036854775808 ≤ (atC L i).ma ∧ (atC L i).ma ≤ 9223372036854775807
theorem CkRow.below {w w' : World} {a : Option Addr} {L : List Ck} (h : CkRow w a L) (hb : Below w.heap.size w w') : CkRow w' a L := by
  intro i hi
  obtain ⟨x, e, hx, hc, hs⟩ := h i hi
  exact ⟨x, e, Nat.lt_of_lt_of_le hx hb.size, fun o ho => by rw [hb.cell (p := x.add (i * 10 + o)) (by rw [addr_blk]; exact hx)]; exact hc o ho, hs⟩
theorem list10 {α : Type} {cs : List α} (h : cs.length = 10) : ∃ c0 c1 c2 c3 c4 c5 c6 c7 c8 c9, cs = [c0, c1, c2, c3, c4, c5, c6, c7, c8, c9] := by
  match cs, h with
  | [c0, c1, c2, c3, c4, c5, c6, c7, c8, c9], _ => exact ⟨c0, c1, c2, c3, c4, c5, c6, c7, c8, c9, rfl⟩
set_option maxRecDepth 10000 in
set_option maxHeartbeats 4000000 in
theorem ckRow_of {H : Type} {enc : TypeId × Value → H} {W : World} {a : Option Addr} {len cap : Nat} {d : DataW H} {p : List MemPlace}
    (h : ∃ fuel, DataW.trod enc Tryd.prog W 0 (fun _ => true) true fuel 62 (Value.slice a len cap).cells.toList = some (d, p)) : (∃ L, L.length = len ∧ CkRow W a L) ∧ len ≤ maxLen := by
  obtain ⟨fuel, hf⟩ := h
  rcases Go.Deep.open_slice Tryd.underlying62 hf with ⟨hcs, _⟩ | ⟨x, l, c, m, n, D, Pl, hcs, _, hl, hm, hmm, _, hcell⟩
  · simp [Value.cells] at hcs
    obtain ⟨rfl, rfl, rfl⟩ := hcs
    exact ⟨⟨[], rfl, fun i hi => absurd hi (by simp)⟩, Nat.zero_le _⟩
  · simp [Value.cells] at hcs
    obtain ⟨rfl, rfl, rfl⟩ := hcs
    have hmc : m = cap := by simpa using hmm
    have ce : Tryd.prog.cellsOf 56 = 10 := by kernel_rfl
    have each : ∀ i, i < len → ∃ q : Ck, (∀ o, o < 10 → W.cell? (x.add (i * 10 + o)) = some (ckC q o)) ∧ q.na.size ≤ maxLen ∧ q.va.size ≤ maxLen ∧ q.ho.size ≤ maxLen ∧ q.pa.size ≤ maxLen ∧ q.pt.size ≤ maxLen ∧ -9223372036854775808 ≤ q.mo ∧ q.mo ≤ 9223372036854775807 ∧ -9223372036854775808 ≤ q.un ∧ q.un ≤ 9223372036854775807 ∧ -9223372036854775808 ≤ q.ma ∧ q.ma ≤ 9223372036854775807 := fun i hi => by
      obtain ⟨cs', h1, h2⟩ := hcell i (by omega)
      rw [ce] at h1
      obtain ⟨_, hlen, hc⟩ := World.cells?_some h1
      obtain ⟨v0, v1, v2, v3, v4, v5, v6, v7, v8, v9, rfl⟩ := list10 hlen
      obtain ⟨y0, y1, y2, y3, y4, y5, y6, y7, y8, y9, n', g0, g1, g2, g3, g4, g5, g6, g7, g8, g9⟩ := trod_cells10 Tryd.underlying56 (by kernel_rfl) h2
      obtain ⟨s0, e0, -, z0⟩ := DataW.trod_string Tryd.underlying9 g0
      obtain ⟨s1, e1, -, z1⟩ := DataW.trod_string Tryd.underlying9 g1
      obtain ⟨s2, e2, -, z2⟩ := DataW.trod_string Tryd.underlying9 g2
      obtain ⟨s3, e3, -⟩ := DataW.trod_bool Tryd.underlying4 g3
      obtain ⟨s4, e4, -, z4⟩ := DataW.trod_string Tryd.underlying9 g4
      obtain ⟨s5, e5, -⟩ := DataW.trod_bool Tryd.underlying4 g5
      obtain ⟨s6, e6, -, z6⟩ := DataW.trod_int Tryd.underlying2 g6
      obtain ⟨s7, e7, -, z7⟩ := DataW.trod_string Tryd.underlying9 g7
      obtain ⟨s8, e8, -, z8⟩ := DataW.trod_int Tryd.underlying2 g8
      obtain ⟨s9, e9, -, z9⟩ := DataW.trod_int Tryd.underlying2 g9
      simp only [List.cons.injEq, and_true] at e0 e1 e2 e3 e4 e5 e6 e7 e8 e9
      subst e0 e1 e2 e3 e4 e5 e6 e7 e8 e9
      refine ⟨⟨s0, s1, s2, s3, s4, s5, s6, s7, s8, s9⟩, fun o ho => ?_, z0, z1, z2, z4, z7, (ck_wf z6).1, (ck_wf z6).2, (ck_wf z8).1, (ck_wf z8).2, (ck_wf z9).1, (ck_wf z9).2⟩
      have hco := hc o ho
      rw [add_add] at hco
      rw [hco]
      match o, ho with
      | 0, _ => rfl
      | 1, _ => rfl
      | 2, _ => rfl
      | 3, _ => rfl
      | 4, _ => rfl
      | 5, _ => rfl
      | 6, _ => rfl
      | 7, _ => rfl
      | 8, _ => rfl
      | 9, _ => rfl
    obtain ⟨q, hq⟩ := @Go.Deep.choose_lt Ck ⟨ckNone⟩ len _ each
    refine ⟨⟨(List.range len).map q, by simp, fun i hi => ?_⟩, by omega⟩
    have hi' : i < len := by simpa using hi
    have e : atC ((List.range len).map q) i = q i := by simp [atC, hi']
    rw [e]
    refine ⟨x, rfl, ?_, hq i hi'⟩
    have := World.block_lt_of_cell? W _ ((hq i hi').1 0 (by omega))
    rw [addr_blk] at this; exact this
set_option maxRecDepth 10000 in
set_option maxHeartbeats 4000000 in
theorem szCookieS_any (a : Option Addr) (cap : Nat) (L : List Ck) (l : Int) (w : World) (hr : CkRow w a L) (hn : L.length ≤ maxLen) (h0 : 0 ≤ l) (h1 : l ≤ 1048576) :
    Calls Tryd.prog 51 #[.slice a L.length cap, .int .i64 l] w fun e w' => (∃ r : Int, e = .returned (.int .i64 r) ∧ (r < 0 ∨ (0 ≤ r ∧ r ≤ 1048576 ∧ L.length ≤ 1048576 ∧ ∀ i, i < L.length → (atC L i).na.size + (atC L i).va.size + (atC L i).ho.size + (atC L i).pa.size + (atC L i).pt.size ≤ 1048576))) ∧ Below w.heap.size w w' := by
  unfold maxLen at hn
  by_cases hl : l < L.length
  · have q : decide (l - (L.length : Int) < 0) = true := by rw [decide_eq_true_iff]; omega
    go_enter Tryd.func51, Tryd.ntmps51
    go_wp2
    go_ret
    exact ⟨⟨_, rfl, .inl (by decide)⟩, Below.refl _ _⟩
  have q : decide (l - (L.length : Int) < 0) = false := by rw [decide_eq_false_iff_not]; omega
  have HR : Hid (CkRow w a L) := hr
  clear hr
  go_enter Tryd.func51, Tryd.ntmps51
  go_wp2
  go_loopw [1, 5] (fun v i wr => ∃ (k : Nat) (z : Int), k ≤ L.length ∧ v = .int .i64 z ∧ i = .int .i64 k ∧ 0 ≤ z ∧ z ≤ 1048576 ∧ Hid (∀ i, i < k → (atC L i).na.size + (atC L i).va.size + (atC L i).ho.size + (atC L i).pa.size + (atC L i).pt.size ≤ 1048576) ∧ Hid (Below w.heap.size w wr)) (fun _ i _ => L.length - (intOf i).toNat)
  case atStart => exact ⟨0, _, Nat.zero_le _, rfl, rfl, by omega, by omega, fun i hi => absurd hi (by omega), Below.refl _ _⟩
  case round =>
    obtain ⟨k, z, hk, rfl, rfl, z0, zl, HS, HB⟩ := hrel
    by_cases hlt : k < L.length
    · obtain ⟨x, rfl, hx, hc, hs0, hs1, hs2, hs4, hs7, -⟩ := HR.out.below HB.out k hlt
      have c0 : wr.cell? (x.add (k * 10)) = some (.string (atC L k).na) := hc 0 (by omega)
      have c1 : wr.cell? ⟨(x.add (k * 10)).block, (x.add (k * 10)).off + 1, none⟩ = some (.string (atC L k).va) := by rw [show (.string (atC L k).va) = ckC (atC L k) 1 from rfl, ← hc 1 (by omega), ← add_add]; rfl
      have c2 : wr.cell? ⟨(x.add (k * 10)).block, (x.add (k * 10)).off + 2, none⟩ = some (.string (atC L k).ho) := by rw [show (.string (atC L k).ho) = ckC (atC L k) 2 from rfl, ← hc 2 (by omega), ← add_add]; rfl
      have c3 : wr.cell? ⟨(x.add (k * 10)).block, (x.add (k * 10)).off + 3, none⟩ = some (.bool (atC L k).al) := by rw [show (.bool (atC L k).al) = ckC (atC L k) 3 from rfl, ← hc 3 (by omega), ← add_add]; rfl
      have c4 : wr.cell? ⟨(x.add (k * 10)).block, (x.add (k * 10)).off + 4, none⟩ = some (.string (atC L k).pa) := by rw [show (.string (atC L k).pa) = ckC (atC L k) 4 from rfl, ← hc 4 (by omega), ← add_add]; rfl
      have c5 : wr.cell? ⟨(x.add (k * 10)).block, (x.add (k * 10)).off + 5, none⟩ = some (.bool (atC L k).se) := by rw [show (.bool (atC L k).se) = ckC (atC L k) 5 from rfl, ← hc 5 (by omega), ← add_add]; rfl
      have c6 : wr.cell? ⟨(x.add (k * 10)).block, (x.add (k * 10)).off + 6, none⟩ = some (.int .i64 (atC L k).mo) := by rw [show (.int .i64 (atC L k).mo) = ckC (atC L k) 6 from rfl, ← hc 6 (by omega), ← add_add]; rfl
      have c7 : wr.cell? ⟨(x.add (k * 10)).block, (x.add (k * 10)).off + 7, none⟩ = some (.string (atC L k).pt) := by rw [show (.string (atC L k).pt) = ckC (atC L k) 7 from rfl, ← hc 7 (by omega), ← add_add]; rfl
      have c8 : wr.cell? ⟨(x.add (k * 10)).block, (x.add (k * 10)).off + 8, none⟩ = some (.int .i64 (atC L k).un) := by rw [show (.int .i64 (atC L k).un) = ckC (atC L k) 8 from rfl, ← hc 8 (by omega), ← add_add]; rfl
      have c9 : wr.cell? ⟨(x.add (k * 10)).block, (x.add (k * 10)).off + 9, none⟩ = some (.int .i64 (atC L k).ma) := by rw [show (.int .i64 (atC L k).ma) = ckC (atC L k) 9 from rfl, ← hc 9 (by omega), ← add_add]; rfl
      have KZ : Hid (∀ W, Calls Tryd.prog 47 #[.agg #[.string (atC L k).na, .string (atC L k).va, .string (atC L k).ho, .bool (atC L k).al, .string (atC L k).pa, .bool (atC L k).se, .int .i64 (atC L k).mo, .string (atC L k).pt, .int .i64 (atC L k).un, .int .i64 (atC L k).ma], .int .i64 z] W fun e w' => (∃ r : Int, e = .returned (.int .i64 r) ∧ (r < 0 ∨ (0 ≤ r ∧ r ≤ 1048576 ∧ (atC L k).na.size + (atC L k).va.size + (atC L k).ho.size + (atC L k).pa.size + (atC L k).pt.size ≤ 1048576))) ∧ Below W.heap.size W w') := fun W => szCookie_at (atC L k).na (atC L k).va (atC L k).ho (atC L k).al (atC L k).pa (atC L k).se (atC L k).mo (atC L k).pt (atC L k).un (atC L k).ma z W hs0 hs1 hs2 hs4 hs7 z0 zl
      have k0 : (0 : Int) ≤ k := by omega
      have k1 : (k : Int) < L.length := by omega
      have HN : Hid ((atC L k).na.size + (atC L k).va.size + (atC L k).ho.size + (atC L k).pa.size + (atC L k).pt.size ≤ 1048576 → ∀ i, i < k + 1 → (atC L i).na.size + (atC L i).va.size + (atC L i).ho.size + (atC L i).pa.size + (atC L i).pt.size ≤ 1048576) := fun hs i hi => by
        by_cases e : i = k
        · subst e; exact hs
        · exact HS.out i (by omega)
      clear hc hs0 hs1 hs2 hs4 hs7
      generalize atC L k = y at *
      obtain ⟨na, va, ho, al, pa, se, mo, pt, un, ma⟩ := y
      dsimp only at *
      go_wp2_with fail
      refine (KZ.out _).mono ?_
      rintro e w1 ⟨⟨r, rfl, hr⟩, hb1⟩
      have B1 : Hid (Below w.heap.size w w1) := HB.out.trans (hb1.mono HB.out.size)
      clear hb1 c0 c1 c2 c3 c4 c5 c6 c7 c8 c9
      rcases hr with hr | ⟨r0, r1, hsum⟩
      · have q2 : decide (r < 0) = true := by rw [decide_eq_true_iff]; exact hr
        go_wp2
        go_ret
        exact ⟨⟨_, rfl, .inl (by decide)⟩, B1.out⟩
      · have q2 : decide (r < 0) = false := by rw [decide_eq_false_iff_not]; omega
        have HN2 : Hid (∀ i, i < k + 1 → (atC L i).na.size + (atC L i).va.size + (atC L i).ho.size + (atC L i).pa.size + (atC L i).pt.size ≤ 1048576) := HN.out hsum
        clear hsum
        go_wp2
        go_roundw
        case rel => exact ⟨k + 1, r, by omega, rfl, by go_num, r0, r1, HN2, B1⟩
        case measure => simp [intOf]; omega
    · go_wp2
      go_ret
      exact ⟨⟨_, rfl, .inr ⟨z0, zl, by omega, fun i hi => HS.out i (by omega)⟩⟩, HB.out⟩
theorem infoCookie : (Tryd.prog.info? 59).map (fun i => (i.zero, i.size, i.bytes)) = some (some (.agg #[.string ⟨#[]⟩, .string ⟨#[]⟩, .string ⟨#[]⟩, .bool false, .string ⟨#[]⟩, .bool false, .int .i64 0, .string ⟨#[]⟩, .int .i64 0, .int .i64 0]), 10, 120) := by kernel_rfl
/-- the first k as they are, the others empty -/
def uptoC (L : List Ck) (k j o : Nat) : Value := if j < k then ckC (atC L j) o else ckC ckNone o
theorem make_cookies (w : World) (n : Nat) (hn : n ≤ 1048576) :
    ∃ w', Sem.run Tryd.prog (Instr.makeSlice 65 (.int .i64 (n : Int)) (.int .i64 (n : Int))) w = .ok (.slice (some ⟨w.heap.size, 0, none⟩) n n) w' ∧ SliceR w' w.heap.size 10 (.slice (some ⟨w.heap.size, 0, none⟩) n n) n (fun _ o => ckC ckNone o) ∧ w.heap.size < w'.heap.size ∧ Below w.heap.size w w' := by
  obtain ⟨i, h2, h3, h4, h5⟩ := info_parts infoCookie
  have hrun := run_make (P := Tryd.prog) w 65 59 i (.agg #[.string ⟨#[]⟩, .string ⟨#[]⟩, .string ⟨#[]⟩, .bool false, .string ⟨#[]⟩, .bool false, .int .i64 0, .string ⟨#[]⟩, .int .i64 0, .int .i64 0]) Tryd.underlying65 h2 h3 .i64 .i64 n n (by omega) (Int.le_refl _) (by rw [h5]; omega) (by omega)
  simp only [Int.toNat_natCast, h4] at hrun
  refine ⟨_, hrun, ?_, by simp, (Below.refl _ _).alloc (Nat.le_refl _) _⟩
  refine ⟨_, _, rfl, fun _ => ⟨w.heap.size, rfl, Nat.le_refl _, by simp, fun j hj o ho => ⟨?_, by simp⟩⟩⟩
  rw [World.cell?_alloc_new]
  have hz : j * 10 + o < n * 10 := by omega
  have hm : (j * 10 + o) % 10 = o := by omega
  have e : (madeCells (Value.agg #[.string ⟨#[]⟩, .string ⟨#[]⟩, .string ⟨#[]⟩, .bool false, .string ⟨#[]⟩, .bool false, .int .i64 0, .string ⟨#[]⟩, .int .i64 0, .int .i64 0]).cells (n * 10))[j * 10 + o]? = some (ckC ckNone o) := by
    rw [Array.getElem?_eq_some_iff]
    refine ⟨by rw [size_madeCells]; exact hz, ?_⟩
    unfold madeCells
    rw [Array.getElem_map, Array.getElem_range]
    show (#[.string ⟨#[]⟩, .string ⟨#[]⟩, .string ⟨#[]⟩, .bool false, .string ⟨#[]⟩, .bool false, .int .i64 0, .string ⟨#[]⟩, .int .i64 0, .int .i64 0] : Array Value)[(j * 10 + o) % 10]! = _
    rw [hm]
    match o, ho with
    | 0, _ => rfl
    | 1, _ => rfl
    | 2, _ => rfl
    | 3, _ => rfl
    | 4, _ => rfl
    | 5, _ => rfl
    | 6, _ => rfl
    | 7, _ => rfl
    | 8, _ => rfl
    | 9, _ => rfl
  exact e
/-- ten cells written: one cookie put at its place -/
theorem SliceR.put10 {w : World} {B n m g cap : Nat} {f : Nat → Nat → Value} (hs : SliceR w B 10 (.slice (some ⟨g, 0, none⟩) m cap) n f) (k : Nat) (hk : k < n) (c : Ck) :
    SliceR ((((((((((w.setCell ⟨g, k * 10 + 0, none⟩ (.string c.na)).setCell ⟨g, k * 10 + 1, none⟩ (.string c.va)).setCell ⟨g, k * 10 + 2, none⟩ (.string c.ho)).setCell ⟨g, k * 10 + 3, none⟩ (.bool c.al)).setCell ⟨g, k * 10 + 4, none⟩ (.string c.pa)).setCell ⟨g, k * 10 + 5, none⟩ (.bool c.se)).setCell ⟨g, k * 10 + 6, none⟩ (.int .i64 c.mo)).setCell ⟨g, k * 10 + 7, none⟩ (.string c.pt)).setCell ⟨g, k * 10 + 8, none⟩ (.int .i64 c.un)).setCell ⟨g, k * 10 + 9, none⟩ (.int .i64 c.ma)) B 10 (.slice (some ⟨g, 0, none⟩) m cap) n (fun j o => if j = k then ckC c o else f j o) := by
  refine SliceR.congr (SliceR.set (SliceR.set (SliceR.set (SliceR.set (SliceR.set (SliceR.set (SliceR.set (SliceR.set (SliceR.set (SliceR.set (hs) k 0 hk (by omega) _) k 1 hk (by omega) _) k 2 hk (by omega) _) k 3 hk (by omega) _) k 4 hk (by omega) _) k 5 hk (by omega) _) k 6 hk (by omega) _) k 7 hk (by omega) _) k 8 hk (by omega) _) k 9 hk (by omega) _) (fun j hj o ho => ?_)
  by_cases e : j = k
  · subst e
    match o, ho with
    | 0, _ => simp [updR, ckC]
    | 1, _ => simp [updR, ckC]
    | 2, _ => simp [updR, ckC]
    | 3, _ => simp [updR, ckC]
    | 4, _ => simp [updR, ckC]
    | 5, _ => simp [updR, ckC]
    | 6, _ => simp [updR, ckC]
    | 7, _ => simp [updR, ckC]
    | 8, _ => simp [updR, ckC]
    | 9, _ => simp [updR, ckC]
  · simp [updR, e]
set_option maxRecDepth 10000 in
set_option maxHeartbeats 4000000 in
theorem toCookieS_any (a : Option Addr) (cap : Nat) (L : List Ck) (w : World) (hr : CkRow w a L) (hn : L.length ≤ 1048576) :
    Calls Tryd.prog 53 #[.slice a L.length cap] w fun e w' => ∃ v, e = .returned v ∧ SliceC w' w.heap.size v L ∧ Below w.heap.size w w' := by
  have HR : Hid (CkRow w a L) := hr
  clear hr
  obtain ⟨w1, hmk, hs1, hz1, hb1⟩ := make_cookies w L.length hn
  have HS1 : Hid (SliceR w1 w.heap.size 10 (.slice (some ⟨w.heap.size, 0, none⟩) L.length L.length) L.length (uptoC L 0)) := SliceR.congr hs1 (fun j _ o _ => by unfold uptoC; rw [if_neg (by omega)])
  have HB1 : Hid (Below w.heap.size w w1) := hb1
  clear hs1 hb1
  go_enter Tryd.func53, Tryd.ntmps53
  go_wp2
  clear hmk
  go_loopw [4] (fun i wr => ∃ k : Nat, k ≤ L.length ∧ i = .int .i64 k ∧ Hid (SliceR wr w.heap.size 10 (.slice (some ⟨w.heap.size, 0, none⟩) L.length L.length) L.length (uptoC L k)) ∧ Hid (Below w.heap.size w wr)) (fun i _ => L.length - (intOf i).toNat)
  case atStart => exact ⟨0, Nat.zero_le _, rfl, HS1, HB1⟩
  case round =>
    obtain ⟨k, hk, rfl, HS, HB⟩ := hrel
    by_cases hlt : k < L.length
    · obtain ⟨x, rfl, hx, hc, -⟩ := HR.out.below HB.out k hlt
      have c0 : wr.cell? (x.add (k * 10)) = some (.string (atC L k).na) := hc 0 (by omega)
      have c1 : wr.cell? ⟨(x.add (k * 10)).block, (x.add (k * 10)).off + 1, none⟩ = some (.string (atC L k).va) := by rw [show (.string (atC L k).va) = ckC (atC L k) 1 from rfl, ← hc 1 (by omega), ← add_add]; rfl
      have c2 : wr.cell? ⟨(x.add (k * 10)).block, (x.add (k * 10)).off + 2, none⟩ = some (.string (atC L k).ho) := by rw [show (.string (atC L k).ho) = ckC (atC L k) 2 from rfl, ← hc 2 (by omega), ← add_add]; rfl
      have c3 : wr.cell? ⟨(x.add (k * 10)).block, (x.add (k * 10)).off + 3, none⟩ = some (.bool (atC L k).al) := by rw [show (.bool (atC L k).al) = ckC (atC L k) 3 from rfl, ← hc 3 (by omega), ← add_add]; rfl
      have c4 : wr.cell? ⟨(x.add (k * 10)).block, (x.add (k * 10)).off + 4, none⟩ = some (.string (atC L k).pa) := by rw [show (.string (atC L k).pa) = ckC (atC L k) 4 from rfl, ← hc 4 (by omega), ← add_add]; rfl
      have c5 : wr.cell? ⟨(x.add (k * 10)).block, (x.add (k * 10)).off + 5, none⟩ = some (.bool (atC L k).se) := by rw [show (.bool (atC L k).se) = ckC (atC L k) 5 from rfl, ← hc 5 (by omega), ← add_add]; rfl
      have c6 : wr.cell? ⟨(x.add (k * 10)).block, (x.add (k * 10)).off + 6, none⟩ = some (.int .i64 (atC L k).mo) := by rw [show (.int .i64 (atC L k).mo) = ckC (atC L k) 6 from rfl, ← hc 6 (by omega), ← add_add]; rfl
      have c7 : wr.cell? ⟨(x.add (k * 10)).block, (x.add (k * 10)).off + 7, none⟩ = some (.string (atC L k).pt) := by rw [show (.string (atC L k).pt) = ckC (atC L k) 7 from rfl, ← hc 7 (by omega), ← add_add]; rfl
      have c8 : wr.cell? ⟨(x.add (k * 10)).block, (x.add (k * 10)).off + 8, none⟩ = some (.int .i64 (atC L k).un) := by rw [show (.int .i64 (atC L k).un) = ckC (atC L k) 8 from rfl, ← hc 8 (by omega), ← add_add]; rfl
      have c9 : wr.cell? ⟨(x.add (k * 10)).block, (x.add (k * 10)).off + 9, none⟩ = some (.int .i64 (atC L k).ma) := by rw [show (.int .i64 (atC L k).ma) = ckC (atC L k) 9 from rfl, ← hc 9 (by omega), ← add_add]; rfl
      have KT : Hid (∀ W, Calls Tryd.prog 49 #[.agg #[.string (atC L k).na, .string (atC L k).va, .string (atC L k).ho, .bool (atC L k).al, .string (atC L k).pa, .bool (atC L k).se, .int .i64 (atC L k).mo, .string (atC L k).pt, .int .i64 (atC L k).un, .int .i64 (atC L k).ma]] W fun e w' => e = .returned (.agg #[.string (atC L k).na, .string (atC L k).va, .string (atC L k).ho, .bool (atC L k).al, .string (atC L k).pa, .bool (atC L k).se, .int .i64 (atC L k).mo, .string (atC L k).pt, .int .i64 (atC L k).un, .int .i64 (atC L k).ma]) ∧ Below W.heap.size W w') := fun W => toCookie_any _ _ _ _ _ _ _ _ _ _ W
      have HP : Hid (∀ w2 f, SliceR w2 w.heap.size 10 (.slice (some ⟨w.heap.size, 0, none⟩) L.length L.length) L.length f → SliceR ((((((((((w2.setCell ⟨w.heap.size, k * 10 + 0, none⟩ (.string (atC L k).na)).setCell ⟨w.heap.size, k * 10 + 1, none⟩ (.string (atC L k).va)).setCell ⟨w.heap.size, k * 10 + 2, none⟩ (.string (atC L k).ho)).setCell ⟨w.heap.size, k * 10 + 3, none⟩ (.bool (atC L k).al)).setCell ⟨w.heap.size, k * 10 + 4, none⟩ (.string (atC L k).pa)).setCell ⟨w.heap.size, k * 10 + 5, none⟩ (.bool (atC L k).se)).setCell ⟨w.heap.size, k * 10 + 6, none⟩ (.int .i64 (atC L k).mo)).setCell ⟨w.heap.size, k * 10 + 7, none⟩ (.string (atC L k).pt)).setCell ⟨w.heap.size, k * 10 + 8, none⟩ (.int .i64 (atC L k).un)).setCell ⟨w.heap.size, k * 10 + 9, none⟩ (.int .i64 (atC L k).ma)) w.heap.size 10 (.slice (some ⟨w.heap.size, 0, none⟩) L.length L.length) L.length (fun j o => if j = k then ckC (atC L k) o else f j o)) := fun w2 f hh => SliceR.put10 hh k hlt (atC L k)
      have HU : Hid (∀ j o, (if j = k then ckC (atC L k) o else uptoC L k j o) = uptoC L (k + 1) j o) := fun j o => by
        unfold uptoC
        by_cases e : j = k
        · subst e; rw [if_pos rfl, if_pos (by omega)]
        · rw [if_neg e]
          by_cases h : j < k
          · rw [if_pos h, if_pos (by omega)]
          · rw [if_neg h, if_neg (by omega)]
      have k0 : (0 : Int) ≤ k := by omega
      have k1 : (k : Int) < L.length := by omega
      clear hc
      generalize atC L k = y at *
      obtain ⟨na, va, ho, al, pa, se, mo, pt, un, ma⟩ := y
      dsimp only at *
      go_wp2_with fail
      refine (KT.out _).mono ?_
      rintro e w2 ⟨rfl, hb2⟩
      have S2 : Hid (SliceR w2 w.heap.size 10 (.slice (some ⟨w.heap.size, 0, none⟩) L.length L.length) L.length (uptoC L k)) := SliceR.below HS.out hb2
      have B2 : Hid (Below w.heap.size w w2) := HB.out.trans (hb2.mono HB.out.size)
      clear hb2 hx c0 c1 c2 c3 c4 c5 c6 c7 c8 c9
      obtain ⟨d0, f0, d1, f1, d2, f2, d3, f3, d4, f4, d5, f5, d6, f6, d7, f7, d8, f8, d9, f9⟩ : w2.cell? ⟨w.heap.size, k * 10, none⟩ = some (uptoC L k k 0) ∧ w2.frozen? ⟨w.heap.size, k * 10, none⟩ = false ∧ w2.cell? ⟨w.heap.size, k * 10 + 1, none⟩ = some (uptoC L k k 1) ∧ w2.frozen? ⟨w.heap.size, k * 10 + 1, none⟩ = false ∧ w2.cell? ⟨w.heap.size, k * 10 + 2, none⟩ = some (uptoC L k k 2) ∧ w2.frozen? ⟨w.heap.size, k * 10 + 2, none⟩ = false ∧ w2.cell? ⟨w.heap.size, k * 10 + 3, none⟩ = some (uptoC L k k 3) ∧ w2.frozen? ⟨w.heap.size, k * 10 + 3, none⟩ = false ∧ w2.cell? ⟨w.heap.size, k * 10 + 4, none⟩ = some (uptoC L k k 4) ∧ w2.frozen? ⟨w.heap.size, k * 10 + 4, none⟩ = false ∧ w2.cell? ⟨w.heap.size, k * 10 + 5, none⟩ = some (uptoC L k k 5) ∧ w2.frozen? ⟨w.heap.size, k * 10 + 5, none⟩ = false ∧ w2.cell? ⟨w.heap.size, k * 10 + 6, none⟩ = some (uptoC L k k 6) ∧ w2.frozen? ⟨w.heap.size, k * 10 + 6, none⟩ = false ∧ w2.cell? ⟨w.heap.size, k * 10 + 7, none⟩ = some (uptoC L k k 7) ∧ w2.frozen? ⟨w.heap.size, k * 10 + 7, none⟩ = false ∧ w2.cell? ⟨w.heap.size, k * 10 + 8, none⟩ = some (uptoC L k k 8) ∧ w2.frozen? ⟨w.heap.size, k * 10 + 8, none⟩ = false ∧ w2.cell? ⟨w.heap.size, k * 10 + 9, none⟩ = some (uptoC L k k 9) ∧ w2.frozen? ⟨w.heap.size, k * 10 + 9, none⟩ = false := by
        obtain ⟨p, c, e, hh⟩ := S2.out
        injection e with e1
        obtain ⟨g, e2, -, -, hc⟩ := hh (by omega)
        rw [e2] at e1
        injection e1 with e1
        injection e1 with e1
        subst e1
        exact ⟨(hc k hlt 0 (by omega)).1, (hc k hlt 0 (by omega)).2, (hc k hlt 1 (by omega)).1, (hc k hlt 1 (by omega)).2, (hc k hlt 2 (by omega)).1, (hc k hlt 2 (by omega)).2, (hc k hlt 3 (by omega)).1, (hc k hlt 3 (by omega)).2, (hc k hlt 4 (by omega)).1, (hc k hlt 4 (by omega)).2, (hc k hlt 5 (by omega)).1, (hc k hlt 5 (by omega)).2, (hc k hlt 6 (by omega)).1, (hc k hlt 6 (by omega)).2, (hc k hlt 7 (by omega)).1, (hc k hlt 7 (by omega)).2, (hc k hlt 8 (by omega)).1, (hc k hlt 8 (by omega)).2, (hc k hlt 9 (by omega)).1, (hc k hlt 9 (by omega)).2⟩
      generalize uptoC L k k 0 = z0 at *
      generalize uptoC L k k 1 = z1 at *
      generalize uptoC L k k 2 = z2 at *
      generalize uptoC L k k 3 = z3 at *
      generalize uptoC L k k 4 = z4 at *
      generalize uptoC L k k 5 = z5 at *
      generalize uptoC L k k 6 = z6 at *
      generalize uptoC L k k 7 = z7 at *
      generalize uptoC L k k 8 = z8 at *
      generalize uptoC L k k 9 = z9 at *
      have HN : Hid (SliceR ((((((((((w2.setCell ⟨w.heap.size, k * 10 + 0, none⟩ (.string na)).setCell ⟨w.heap.size, k * 10 + 1, none⟩ (.string va)).setCell ⟨w.heap.size, k * 10 + 2, none⟩ (.string ho)).setCell ⟨w.heap.size, k * 10 + 3, none⟩ (.bool al)).setCell ⟨w.heap.size, k * 10 + 4, none⟩ (.string pa)).setCell ⟨w.heap.size, k * 10 + 5, none⟩ (.bool se)).setCell ⟨w.heap.size, k * 10 + 6, none⟩ (.int .i64 mo)).setCell ⟨w.heap.size, k * 10 + 7, none⟩ (.string pt)).setCell ⟨w.heap.size, k * 10 + 8, none⟩ (.int .i64 un)).setCell ⟨w.heap.size, k * 10 + 9, none⟩ (.int .i64 ma)) w.heap.size 10 (.slice (some ⟨w.heap.size, 0, none⟩) L.length L.length) L.length (uptoC L (k + 1))) := SliceR.congr (HP.out w2 _ S2.out) (fun j hj o ho => HU.out j o)
      go_wp2
      go_roundw
      case rel => exact ⟨k + 1, by omega, by go_num, HN, (((((((((B2.out.setCell (Nat.le_refl _) _).setCell (Nat.le_refl _) _).setCell (Nat.le_refl _) _).setCell (Nat.le_refl _) _).setCell (Nat.le_refl _) _).setCell (Nat.le_refl _) _).setCell (Nat.le_refl _) _).setCell (Nat.le_refl _) _).setCell (Nat.le_refl _) _).setCell (Nat.le_refl _) _⟩
      case measure => simp [intOf]; omega
    · go_wp2
      go_ret
      refine ⟨_, rfl, ⟨?_, _, _, rfl, Nat.le_refl _⟩, HB.out⟩
      exact SliceR.congr HS.out (fun j hj o ho => by unfold uptoC ckR; rw [if_pos (by omega)])
set_option maxRecDepth 10000 in
set_option maxHeartbeats 8000000 in
theorem eqCookieS_any (a b : Value) (L : List Ck) (B B' : Nat) (w : World) (ha : SliceC w B a L) (hb : SliceC w B' b L) (hn : L.length ≤ 1048576) :
    Calls Tryd.prog 55 #[a, b] w fun e w' => e = .returned (.bool true) ∧ Below w.heap.size w w' := by
  obtain ⟨⟨p, cap, rfl, h1⟩, -⟩ := ha
  obtain ⟨⟨p', cap', rfl, h2⟩, -⟩ := hb
  have H1 : Hid (0 < L.length → ∃ g, p = some ⟨g, 0, none⟩ ∧ B ≤ g ∧ g < w.heap.size ∧ ∀ j, j < L.length → ∀ o, o < 10 → w.cell? ⟨g, j * 10 + o, none⟩ = some (ckR L j o) ∧ w.frozen? ⟨g, j * 10 + o, none⟩ = false) := h1
  have H2 : Hid (0 < L.length → ∃ g, p' = some ⟨g, 0, none⟩ ∧ B' ≤ g ∧ g < w.heap.size ∧ ∀ j, j < L.length → ∀ o, o < 10 → w.cell? ⟨g, j * 10 + o, none⟩ = some (ckR L j o) ∧ w.frozen? ⟨g, j * 10 + o, none⟩ = false) := h2
  clear h1 h2
  go_enter Tryd.func55, Tryd.ntmps55
  go_wp2
  go_loopw [5] (fun i wr => ∃ k : Nat, k ≤ L.length ∧ i = .int .i64 k ∧ Hid (Below w.heap.size w wr)) (fun i _ => L.length - (intOf i).toNat)
  case atStart => exact ⟨0, by omega, rfl, Below.refl _ _⟩
  case round =>
    obtain ⟨k, hk, rfl, HB⟩ := hrel
    by_cases hlt : k < L.length
    · obtain ⟨g, rfl, -, hg, hc⟩ := H1.out (by omega)
      obtain ⟨g', rfl, -, hg', hc'⟩ := H2.out (by omega)
      have hgr : g < wr.heap.size := Nat.lt_of_lt_of_le hg HB.out.size
      have hgr' : g' < wr.heap.size := Nat.lt_of_lt_of_le hg' HB.out.size
      have hx : ∀ o, o < 10 → wr.cell? ⟨g, k * 10 + o, none⟩ = some (ckC (atC L k) o) := fun o ho => by rw [(bcell HB.out).1 _ _ hg]; exact (hc k hlt o ho).1
      have hx' : ∀ o, o < 10 → wr.cell? ⟨g', k * 10 + o, none⟩ = some (ckC (atC L k) o) := fun o ho => by rw [(bcell HB.out).1 _ _ hg']; exact (hc' k hlt o ho).1
      have c0 : wr.cell? ⟨g, k * 10, none⟩ = some (.string (atC L k).na) := hx 0 (by omega)
      have d0 : wr.cell? ⟨g', k * 10, none⟩ = some (.string (atC L k).na) := hx' 0 (by omega)
      have c1 : wr.cell? ⟨g, k * 10 + 1, none⟩ = some (.string (atC L k).va) := hx 1 (by omega)
      have d1 : wr.cell? ⟨g', k * 10 + 1, none⟩ = some (.string (atC L k).va) := hx' 1 (by omega)
      have c2 : wr.cell? ⟨g, k * 10 + 2, none⟩ = some (.string (atC L k).ho) := hx 2 (by omega)
      have d2 : wr.cell? ⟨g', k * 10 + 2, none⟩ = some (.string (atC L k).ho) := hx' 2 (by omega)
      have c3 : wr.cell? ⟨g, k * 10 + 3, none⟩ = some (.bool (atC L k).al) := hx 3 (by omega)
      have d3 : wr.cell? ⟨g', k * 10 + 3, none⟩ = some (.bool (atC L k).al) := hx' 3 (by omega)
      have c4 : wr.cell? ⟨g, k * 10 + 4, none⟩ = some (.string (atC L k).pa) := hx 4 (by omega)
      have d4 : wr.cell? ⟨g', k * 10 + 4, none⟩ = some (.string (atC L k).pa) := hx' 4 (by omega)
      have c5 : wr.cell? ⟨g, k * 10 + 5, none⟩ = some (.bool (atC L k).se) := hx 5 (by omega)
      have d5 : wr.cell? ⟨g', k * 10 + 5, none⟩ = some (.bool (atC L k).se) := hx' 5 (by omega)
      have c6 : wr.cell? ⟨g, k * 10 + 6, none⟩ = some (.int .i64 (atC L k).mo) := hx 6 (by omega)
      have d6 : wr.cell? ⟨g', k * 10 + 6, none⟩ = some (.int .i64 (atC L k).mo) := hx' 6 (by omega)
      have c7 : wr.cell? ⟨g, k * 10 + 7, none⟩ = some (.string (atC L k).pt) := hx 7 (by omega)
      have d7 : wr.cell? ⟨g', k * 10 + 7, none⟩ = some (.string (atC L k).pt) := hx' 7 (by omega)
      have c8 : wr.cell? ⟨g, k * 10 + 8, none⟩ = some (.int .i64 (atC L k).un) := hx 8 (by omega)
      have d8 : wr.cell? ⟨g', k * 10 + 8, none⟩ = some (.int .i64 (atC L k).un) := hx' 8 (by omega)
      have c9 : wr.cell? ⟨g, k * 10 + 9, none⟩ = some (.int .i64 (atC L k).ma) := hx 9 (by omega)
      have d9 : wr.cell? ⟨g', k * 10 + 9, none⟩ = some (.int .i64 (atC L k).ma) := hx' 9 (by omega)
      have k0 : (0 : Int) ≤ k := by omega
      have k1 : (k : Int) < L.length := by omega
      clear hc hc' hx hx'
      have KE : Hid (∀ W, Calls Tryd.prog 118 #[.agg #[.string (atC L k).na, .string (atC L k).va, .string (atC L k).ho, .bool (atC L k).al, .string (atC L k).pa, .bool (atC L k).se, .int .i64 (atC L k).mo, .string (atC L k).pt, .int .i64 (atC L k).un, .int .i64 (atC L k).ma], .agg #[.string (atC L k).na, .string (atC L k).va, .string (atC L k).ho, .bool (atC L k).al, .string (atC L k).pa, .bool (atC L k).se, .int .i64 (atC L k).mo, .string (atC L k).pt, .int .i64 (atC L k).un, .int .i64 (atC L k).ma]] W fun e w' => e = .returned (.bool true) ∧ Below W.heap.size W w') := fun W => eqCookie_any (atC L k).na (atC L k).va (atC L k).ho (atC L k).al (atC L k).pa (atC L k).se (atC L k).mo (atC L k).pt (atC L k).un (atC L k).ma W
      generalize atC L k = y at *
      obtain ⟨na, va, ho, al, pa, se, mo, pt, un, ma⟩ := y
      dsimp only at *
      go_wp2_with fail
      go_region_held3 (fun w' => w'.cell? ⟨g, k * 10, none⟩ = some (.string na) ∧ w'.cell? ⟨g, k * 10 + 1, none⟩ = some (.string va) ∧ w'.cell? ⟨g, k * 10 + 2, none⟩ = some (.string ho) ∧ w'.cell? ⟨g, k * 10 + 3, none⟩ = some (.bool al) ∧ w'.cell? ⟨g, k * 10 + 4, none⟩ = some (.string pa) ∧ w'.cell? ⟨g, k * 10 + 5, none⟩ = some (.bool se) ∧ w'.cell? ⟨g, k * 10 + 6, none⟩ = some (.int .i64 mo) ∧ w'.cell? ⟨g, k * 10 + 7, none⟩ = some (.string pt) ∧ w'.cell? ⟨g, k * 10 + 8, none⟩ = some (.int .i64 un) ∧ w'.cell? ⟨g, k * 10 + 9, none⟩ = some (.int .i64 ma) ∧ w'.cell? ⟨g', k * 10, none⟩ = some (.string na) ∧ w'.cell? ⟨g', k * 10 + 1, none⟩ = some (.string va) ∧ w'.cell? ⟨g', k * 10 + 2, none⟩ = some (.string ho) ∧ w'.cell? ⟨g', k * 10 + 3, none⟩ = some (.bool al) ∧ w'.cell? ⟨g', k * 10 + 4, none⟩ = some (.string pa) ∧ w'.cell? ⟨g', k * 10 + 5, none⟩ = some (.bool se) ∧ w'.cell? ⟨g', k * 10 + 6, none⟩ = some (.int .i64 mo) ∧ w'.cell? ⟨g', k * 10 + 7, none⟩ = some (.string pt) ∧ w'.cell? ⟨g', k * 10 + 8, none⟩ = some (.int .i64 un) ∧ w'.cell? ⟨g', k * 10 + 9, none⟩ = some (.int .i64 ma)) (go_keep)
        (first | (go_at_call 118; refine (KE.out _).mono ?_; rintro e w2 ⟨rfl, hb2⟩; have A2 : Below wr.heap.size wr w2 := (Below.drew (Below.refl _ _)).trans hb2; have l0 : w2.cell? ⟨g, k * 10, none⟩ = some (.string na) := ((bcell A2).1 _ _ hgr).trans c0; have m0 : w2.cell? ⟨g', k * 10, none⟩ = some (.string na) := ((bcell A2).1 _ _ hgr').trans d0; have l1 : w2.cell? ⟨g, k * 10 + 1, none⟩ = some (.string va) := ((bcell A2).1 _ _ hgr).trans c1; have m1 : w2.cell? ⟨g', k * 10 + 1, none⟩ = some (.string va) := ((bcell A2).1 _ _ hgr').trans d1; have l2 : w2.cell? ⟨g, k * 10 + 2, none⟩ = some (.string ho) := ((bcell A2).1 _ _ hgr).trans c2; have m2 : w2.cell? ⟨g', k * 10 + 2, none⟩ = some (.string ho) := ((bcell A2).1 _ _ hgr').trans d2; have l3 : w2.cell? ⟨g, k * 10 + 3, none⟩ = some (.bool al) := ((bcell A2).1 _ _ hgr).trans c3; have m3 : w2.cell? ⟨g', k * 10 + 3, none⟩ = some (.bool al) := ((bcell A2).1 _ _ hgr').trans d3; have l4 : w2.cell? ⟨g, k * 10 + 4, none⟩ = some (.string pa) := ((bcell A2).1 _ _ hgr).trans c4; have m4 : w2.cell? ⟨g', k * 10 + 4, none⟩ = some (.string pa) := ((bcell A2).1 _ _ hgr').trans d4; have l5 : w2.cell? ⟨g, k * 10 + 5, none⟩ = some (.bool se) := ((bcell A2).1 _ _ hgr).trans c5; have m5 : w2.cell? ⟨g', k * 10 + 5, none⟩ = some (.bool se) := ((bcell A2).1 _ _ hgr').trans d5; have l6 : w2.cell? ⟨g, k * 10 + 6, none⟩ = some (.int .i64 mo) := ((bcell A2).1 _ _ hgr).trans c6; have m6 : w2.cell? ⟨g', k * 10 + 6, none⟩ = some (.int .i64 mo) := ((bcell A2).1 _ _ hgr').trans d6; have l7 : w2.cell? ⟨g, k * 10 + 7, none⟩ = some (.string pt) := ((bcell A2).1 _ _ hgr).trans c7; have m7 : w2.cell? ⟨g', k * 10 + 7, none⟩ = some (.string pt) := ((bcell A2).1 _ _ hgr').trans d7; have l8 : w2.cell? ⟨g, k * 10 + 8, none⟩ = some (.int .i64 un) := ((bcell A2).1 _ _ hgr).trans c8; have m8 : w2.cell? ⟨g', k * 10 + 8, none⟩ = some (.int .i64 un) := ((bcell A2).1 _ _ hgr').trans d8; have l9 : w2.cell? ⟨g, k * 10 + 9, none⟩ = some (.int .i64 ma) := ((bcell A2).1 _ _ hgr).trans c9; have m9 : w2.cell? ⟨g', k * 10 + 9, none⟩ = some (.int .i64 ma) := ((bcell A2).1 _ _ hgr').trans d9))
      all_goals go_wp2
      all_goals go_roundw
      case rel => exact ⟨k + 1, by omega, by go_num, HB.out.trans (A2.mono HB.out.size)⟩
      case measure => simp [intOf]; omega
    · go_wp2
      go_ret
      exact ⟨rfl, HB.out⟩
end Go.Proofs.YtfoekelhcmlagaaDoor

/- What a right jar is. Written by specjar.py. -/
namespace Go.Proofs.YtfoekelhcmlagaaDoor
open Go.RowKit

/-- of one place -/
def sameK (a b : Ck) : Bool := (a.ho.toList == b.ho.toList) && (a.al == b.al) && (a.pa.toList == b.pa.toList) && (a.pt.toList == b.pt.toList) && (a.na.toList == b.na.toList)
/-- the cookie at a place: right, made behind the one ahead, of another place than those ahead -/
def okJ (L : List Ck) (i : Nat) : Bool := ckB (atC L i) && (i == 0 || decide ((atC L (i - 1)).ma < (atC L i).ma)) && decide (∀ k, k < i → sameK (atC L k) (atC L i) = false)
/-- a right jar -/
def jarB (L : List Ck) : Bool := decide (L.length ≤ 12) && decide (∀ i, i < L.length → okJ L i = true)
theorem jarB_at {L : List Ck} (k : Nat) (h : k < L.length) (hk : okJ L k = false) : jarB L = false := by
  unfold jarB
  rw [decide_eq_false (p := ∀ i, i < L.length → okJ L i = true) (fun h' => by rw [h' k h] at hk; cases hk), Bool.and_false]
theorem jarB_all {L : List Ck} (h : ∀ i, i < L.length → okJ L i = true) : jarB L = decide (L.length ≤ 12) := by
  unfold jarB
  rw [decide_eq_true h, Bool.and_true]
theorem jarB_long {L : List Ck} (h : 12 < L.length) : jarB L = false := by
  unfold jarB
  rw [decide_eq_false (by omega), Bool.false_and]
theorem jarB_parts {L : List Ck} (h : jarB L = true) : L.length ≤ 12 ∧ ∀ i, i < L.length → okJ L i = true := by
  unfold jarB at h
  rw [Bool.and_eq_true, decide_eq_true_eq, decide_eq_true_eq] at h
  exact h
theorem okJ_no {L : List Ck} {i : Nat} (h : ckB (atC L i) = false) : okJ L i = false := by unfold okJ; rw [h]; rfl
theorem okJ_made {L : List Ck} {m : Nat} (h : ¬ (atC L m).ma < (atC L (m + 1)).ma) : okJ L (m + 1) = false := by
  unfold okJ
  have e : (m + 1 == 0) = false := rfl
  rw [Nat.add_sub_cancel, decide_eq_false h, e]
  cases ckB (atC L (m + 1)) <;> rfl
theorem okJ_same {L : List Ck} {i : Nat} (k : Nat) (hk : k < i) (h : sameK (atC L k) (atC L i) = true) : okJ L i = false := by
  unfold okJ
  rw [decide_eq_false (p := ∀ k, k < i → sameK (atC L k) (atC L i) = false) (fun h' => by rw [h' k hk] at h; cases h), Bool.and_false]
theorem okJ_yes {L : List Ck} {i : Nat} (h : ckB (atC L i) = true) (hm : i = 0 ∨ (atC L (i - 1)).ma < (atC L i).ma) (hs : ∀ k, k < i → sameK (atC L k) (atC L i) = false) : okJ L i = true := by
  unfold okJ
  rw [h, decide_eq_true hs, Bool.and_true, Bool.true_and]
  rcases hm with rfl | hm
  · rfl
  · rw [decide_eq_true hm, Bool.or_true]
theorem okJ_right {L : List Ck} {i : Nat} (h : okJ L i = true) : ckB (atC L i) = true := by
  unfold okJ at h; rw [Bool.and_eq_true, Bool.and_eq_true] at h; exact h.1.1
theorem okJ_apart {L : List Ck} {i : Nat} (h : okJ L i = true) : ∀ k, k < i → sameK (atC L k) (atC L i) = false := by
  unfold okJ at h; rw [Bool.and_eq_true, decide_eq_true_eq] at h; exact h.2
theorem okJ_rise {L : List Ck} {m : Nat} (h : okJ L (m + 1) = true) : (atC L m).ma < (atC L (m + 1)).ma := by
  unfold okJ at h
  rw [Bool.and_eq_true, Bool.and_eq_true, Nat.add_sub_cancel] at h
  have e : (m + 1 == 0) = false := rfl
  rw [e, Bool.false_or, decide_eq_true_eq] at h
  exact h.1.2
theorem okJ_succ {L : List Ck} {k : Nat} (h : ∀ i, i < k → okJ L i = true) (hk : okJ L k = true) : ∀ i, i < k + 1 → okJ L i = true := by
  intro i hi
  by_cases e : i = k
  · subst e; exact hk
  · exact h i (by omega)
end Go.Proofs.YtfoekelhcmlagaaDoor

/- Rows of cookies that a call owns; a store of what is there already. Written by jarown.py. -/
namespace Go.Proofs.YtfoekelhcmlagaaDoor
open Go.RowKit

/-- a cookie's cells -/
def ckVals (c : Ck) : List Value := [.string c.na, .string c.va, .string c.ho, .bool c.al, .string c.pa, .bool c.se, .int .i64 c.mo, .string c.pt, .int .i64 c.un, .int .i64 c.ma]
def ckCells : List Ck → List Value
  | [] => []
  | c :: L => ckVals c ++ ckCells L
theorem ckCells_snoc (L : List Ck) (c : Ck) : ckCells L ++ ckVals c = ckCells (L ++ [c]) := by
  induction L with
  | nil => simp [ckCells]
  | cons q L ih => simp only [ckCells, List.cons_append, List.append_assoc, ih]
theorem ckCells_len (L : List Ck) : (ckCells L).length = L.length * 10 := by
  induction L with
  | nil => rfl
  | cons q L ih => simp only [ckCells, List.length_append, ih, List.length_cons]; show 10 + _ = _; omega
theorem ckVals_at (c : Ck) : ∀ o, o < 10 → (ckVals c)[o]? = some (ckC c o)
  | 0, _ => rfl
  | 1, _ => rfl
  | 2, _ => rfl
  | 3, _ => rfl
  | 4, _ => rfl
  | 5, _ => rfl
  | 6, _ => rfl
  | 7, _ => rfl
  | 8, _ => rfl
  | 9, _ => rfl
theorem ckCells_at : ∀ (L : List Ck) (j : Nat), j < L.length → ∀ o, o < 10 → (ckCells L)[j * 10 + o]? = some (ckR L j o)
  | [], j, h, _, _ => by simp at h
  | c :: L, 0, _, o, ho => by
    rw [Nat.zero_mul, Nat.zero_add, ckCells, List.getElem?_append_left (by show o < 10; exact ho), ckVals_at c o ho]
    rfl
  | c :: L, j + 1, h, o, ho => by
    have ih := ckCells_at L j (by simpa using h) o ho
    have hl : (ckVals c).length = 10 := rfl
    rw [ckCells, List.getElem?_append_right (by rw [hl]; omega), hl, show (j + 1) * 10 + o - 10 = j * 10 + o by omega, ih]
    simp [ckR, atC]
theorem sliceC_of_own {w : World} {B : Nat} {t : TypeId} {v : Value} {L : List Ck} (h : w.ownsRow B t 10 v L.length (ckCells L)) : SliceC w B v L := by
  refine ⟨sliceR_of_own h (ckCells_at L), ?_⟩
  obtain ⟨_, ⟨rfl, h0⟩ | ⟨g, cap, cur, rfl, _, _, hc, _⟩⟩ := h
  · exact ⟨none, 0, by rw [h0], by omega⟩
  · exact ⟨_, cap, rfl, hc⟩
theorem cell_ten (w : World) (c : Ck) (t : TypeId) : ∀ j u, (ckVals c)[j]? = some u → (w.alloc (.cells #[.string c.na, .string c.va, .string c.ho, .bool c.al, .string c.pa, .bool c.se, .int .i64 c.mo, .string c.pt, .int .i64 c.un, .int .i64 c.ma] t)).cell? ((⟨w.heap.size, 0, none⟩ : Addr).add j) = some u := by
  intro j u h
  have e : (⟨w.heap.size, 0, none⟩ : Addr).add j = ⟨w.heap.size, j, none⟩ := by unfold Addr.add; split <;> simp_all
  rw [e, World.cell?_alloc_new, ← Array.getElem?_toList]
  exact h
theorem one_ten (c : Ck) : ∀ v ∈ ckVals c, v.oneCell' = true := by
  intro u hu
  simp only [ckVals, List.mem_cons, List.not_mem_nil, or_false] at hu
  rcases hu with rfl | rfl | rfl | rfl | rfl | rfl | rfl | rfl | rfl | rfl <;> rfl
/-- what is there already, stored once more -/
theorem setCell_self {w : World} {b o : Nat} {v : Value} (h : w.cell? ⟨b, o, none⟩ = some v) : w.setCell ⟨b, o, none⟩ v = w := by
  have hb : b < w.heap.size := by
    by_cases hb : b < w.heap.size
    · exact hb
    · exfalso
      simp [World.cell?, Array.getElem?_eq_none (show w.heap.size ≤ b by omega)] at h
  have hs : (w.setCell ⟨b, o, none⟩ v).heap = w.heap := by
    refine Array.ext (by simp [World.setCell]) (fun i h1 h2 => ?_)
    by_cases e : i = b
    · subst e
      unfold World.cell? at h
      rw [Array.getElem?_eq_getElem hb] at h
      simp only [World.setCell, Array.getElem_modify, if_true]
      cases hc : w.heap[i] with
      | cells c t fz =>
        rw [hc] at h
        simp only [Option.isSome_none, Bool.false_eq_true, if_false] at h ⊢
        congr 1
        refine Array.ext (by simp) (fun k k1 k2 => ?_)
        rw [Array.getElem_setIfInBounds]
        split
        · rename_i e2
          subst e2
          have h3 : c[o]? = some v := by simpa using h
          rw [Array.getElem?_eq_getElem (by simpa using k1)] at h3
          exact (Option.some.inj h3).symm
        · rfl
      | _ => rfl
    · simp only [World.setCell, Array.getElem_modify, if_neg (Ne.symm e)]
  cases w
  simp only [World.setCell] at hs ⊢
  rw [hs]
end Go.Proofs.YtfoekelhcmlagaaDoor

/- Who of a jar stays. Written by jarold.py. -/
namespace Go.Proofs.YtfoekelhcmlagaaDoor

/-- those of the first k that stay -/
def stayTo (p : Ck → Bool) (L : List Ck) (k : Nat) : List Ck := (L.take k).filter p
theorem stayTo_zero (p : Ck → Bool) (L : List Ck) : stayTo p L 0 = [] := rfl
theorem stayTo_yes {p : Ck → Bool} {L : List Ck} {k : Nat} (hk : k < L.length) (h : p (atC L k) = true) : stayTo p L (k + 1) = stayTo p L k ++ [atC L k] := by
  have e : L.take (k + 1) = L.take k ++ [atC L k] := by
    rw [List.take_succ_eq_append_getElem hk]
    simp [atC, hk]
  unfold stayTo
  rw [e, List.filter_append]
  simp [h]
theorem stayTo_no {p : Ck → Bool} {L : List Ck} {k : Nat} (hk : k < L.length) (h : p (atC L k) = false) : stayTo p L (k + 1) = stayTo p L k := by
  have e : L.take (k + 1) = L.take k ++ [atC L k] := by
    rw [List.take_succ_eq_append_getElem hk]
    simp [atC, hk]
  unfold stayTo
  rw [e, List.filter_append]
  simp [h]
theorem stayTo_all (p : Ck → Bool) (L : List Ck) : stayTo p L L.length = L.filter p := by unfold stayTo; rw [List.take_length]
theorem stayTo_len (p : Ck → Bool) (L : List Ck) (k : Nat) : (stayTo p L k).length ≤ L.length := by
  unfold stayTo
  refine Nat.le_trans (List.length_filter_le _ _) ?_
  rw [List.length_take]; omega
/-- not old -/
def liveB (now : Int) (c : Ck) : Bool := (c.un == 0) || decide (now < c.un)
/-- what is left of a jar when the old ones are gone -/
def oldL (L : List Ck) (now : Int) : List Ck := if jarB L && timeB now then L.filter (liveB now) else []
theorem oldL_no {L : List Ck} {now : Int} (h : (jarB L && timeB now) = false) : oldL L now = [] := by unfold oldL; rw [h]; rfl
theorem oldL_yes {L : List Ck} {now : Int} (h : (jarB L && timeB now) = true) : oldL L now = stayTo (liveB now) L L.length := by unfold oldL; rw [h, stayTo_all]; rfl
theorem oldL_len (L : List Ck) (now : Int) : (oldL L now).length ≤ 12 := by
  cases h : (jarB L && timeB now) with
  | false => rw [oldL_no h]; decide
  | true =>
    rw [oldL_yes h]
    rw [Bool.and_eq_true] at h
    have := stayTo_len (liveB now) L L.length
    have := (jarB_parts h.1).1
    omega
end Go.Proofs.YtfoekelhcmlagaaDoor

/- The walk of the specification's CookieRight. Written by cookie6.py. -/
namespace Go.Proofs.YtfoekelhcmlagaaDoor
open Go.RowKit

set_option maxRecDepth 10000 in
theorem specTime_any (n : Int) (w : World) :
    Calls Tryd.prog 108 #[.int .i64 n] w fun e w' => e = .returned (.bool (timeB n)) ∧ w' = w := by
  have H : Hid (∀ W, Calls Tryd.prog 149 #[.int .i64 n, .int .i64 0, .int .i64 1000000] W fun e w' => e = .returned (.bool (timeB n)) ∧ w' = W) := fun W => specIs_any n 0 1000000 W
  generalize timeB n = b at *
  go_enter Tryd.func108, Tryd.ntmps108
  go_wp2_with (go_at_call 149; refine (H.out _).mono ?_; rintro e w1 ⟨rfl, rfl⟩)
  go_ret
  exact ⟨rfl, rfl⟩
set_option maxRecDepth 10000 in
theorem specPart_any (t : ByteArray) (w : World) :
    Calls Tryd.prog 107 #[.string t] w fun e w' => e = .returned (.bool (partB t)) ∧ w' = w := by
  have HE : Hid (partB t = decide ((t.size : Int) ≤ 120)) := by show _ = _; unfold partB; rw [decide_eq_decide]; omega
  go_enter Tryd.func107, Tryd.ntmps107
  go_wp2
  go_ret
  exact ⟨ret_bool HE.out.symm, rfl⟩
set_option maxRecDepth 10000 in
set_option maxHeartbeats 4000000 in
theorem specCookie_any (c : Ck) (w : World) (hna : c.na.size ≤ 1048576) (hva : c.va.size ≤ 1048576) :
    Calls Tryd.prog 48 #[ckV c] w fun e w' => e = .returned (.bool (ckB c)) ∧ Below w.heap.size w w' := by
  obtain ⟨na, va, ho, al, pa, se, mo, pt, un, ma⟩ := c
  dsimp only at hna hva
  have K1 : Hid (∀ W, Calls Tryd.prog 104 #[.string na] W fun e w' => e = .returned (.bool (wordB na)) ∧ w' = W) := fun W => specWord_any na W hna
  have K2 : Hid (∀ W, Calls Tryd.prog 104 #[.string va] W fun e w' => e = .returned (.bool (wordB va)) ∧ w' = W) := fun W => specWord_any va W hva
  have K3 : Hid (∀ W, Calls Tryd.prog 25 #[.string ho] W fun e w' => e = .returned (.bool (hostB ho)) ∧ Below W.heap.size W w') := fun W => specHost_any ho W
  have K4 : Hid (∀ W, Calls Tryd.prog 105 #[.string pa] W fun e w' => e = .returned (.bool (pathB pa)) ∧ w' = W) := fun W => specPath_any pa W
  have K5 : Hid (∀ W, Calls Tryd.prog 106 #[.int .i64 mo] W fun e w' => e = .returned (.bool (modeB mo)) ∧ w' = W) := fun W => specMode_any mo W
  have K6 : Hid (∀ W, Calls Tryd.prog 107 #[.string pt] W fun e w' => e = .returned (.bool (partB pt)) ∧ w' = W) := fun W => specPart_any pt W
  have K7 : Hid (∀ W, Calls Tryd.prog 108 #[.int .i64 un] W fun e w' => e = .returned (.bool (timeB un)) ∧ w' = W) := fun W => specTime_any un W
  have K8 : Hid (∀ W, Calls Tryd.prog 108 #[.int .i64 ma] W fun e w' => e = .returned (.bool (timeB ma)) ∧ w' = W) := fun W => specTime_any ma W
  have HE : Hid (ckB ⟨na, va, ho, al, pa, se, mo, pt, un, ma⟩ = (!na.toList.isEmpty && wordB na && wordB va && hostB ho && pathB pa && modeB mo && partB pt && timeB un && timeB ma && safeB se mo pt)) := rfl
  clear hna hva
  unfold ckV
  dsimp only
  generalize ckB ⟨na, va, ho, al, pa, se, mo, pt, un, ma⟩ = R at *
  generalize wordB na = b1 at *
  generalize wordB va = b2 at *
  generalize hostB ho = b3 at *
  generalize pathB pa = b4 at *
  generalize modeB mo = b5 at *
  generalize partB pt = b6 at *
  generalize timeB un = b7 at *
  generalize timeB ma = b8 at *
  go_enter Tryd.func48, Tryd.ntmps48
  cases hnE : na.toList.isEmpty with
  | true =>
    go_wp2
    go_ret
    exact ⟨ret_bool (by rw [HE.out]; first | rfl | simp [*]), (Below.refl _ _).alloc (Nat.le_refl _) _⟩
  | false =>
    go_wp2_with fail
    refine (K1.out _).mono ?_
    rintro e w1 ⟨rfl, rfl⟩
    cases b1 with
    | false =>
      go_wp2
      go_ret
      exact ⟨ret_bool (by rw [HE.out, hnE]; first | rfl | simp [*]), (Below.refl _ _).alloc (Nat.le_refl _) _⟩
    | true =>
      go_wp2_with fail
      refine (K2.out _).mono ?_
      rintro e w2 ⟨rfl, rfl⟩
      cases b2 with
      | false =>
        go_wp2
        go_ret
        exact ⟨ret_bool (by rw [HE.out, hnE]; first | rfl | simp [*]), (Below.refl _ _).alloc (Nat.le_refl _) _⟩
      | true =>
        go_wp2_with fail
        refine (K3.out _).mono ?_
        rintro e w3 ⟨rfl, hb3⟩
        have hz_w3 : w.heap.size < w3.heap.size := by have := hb3.size; simp at this; omega
        have g4_w3 : w3.cell? ⟨w.heap.size, 4, none⟩ = some (.string pa) := by rw [(bcell hb3).1 _ _ (by simp)]; simp
        have g5_w3 : w3.cell? ⟨w.heap.size, 5, none⟩ = some (.bool se) := by rw [(bcell hb3).1 _ _ (by simp)]; simp
        have g6_w3 : w3.cell? ⟨w.heap.size, 6, none⟩ = some (.int .i64 mo) := by rw [(bcell hb3).1 _ _ (by simp)]; simp
        have g7_w3 : w3.cell? ⟨w.heap.size, 7, none⟩ = some (.string pt) := by rw [(bcell hb3).1 _ _ (by simp)]; simp
        have g8_w3 : w3.cell? ⟨w.heap.size, 8, none⟩ = some (.int .i64 un) := by rw [(bcell hb3).1 _ _ (by simp)]; simp
        have g9_w3 : w3.cell? ⟨w.heap.size, 9, none⟩ = some (.int .i64 ma) := by rw [(bcell hb3).1 _ _ (by simp)]; simp
        have B_w3 : Hid (Below w.heap.size w w3) := ((Below.refl _ _).alloc (Nat.le_refl _) _).trans (hb3.mono (by simp))
        clear hb3
        cases b3 with
        | false =>
          go_wp2
          go_ret
          exact ⟨ret_bool (by rw [HE.out, hnE]; first | rfl | simp [*]), B_w3.out⟩
        | true =>
          go_wp2_with fail
          refine (K4.out _).mono ?_
          rintro e _ ⟨rfl, rfl⟩
          cases b4 with
          | false =>
            go_wp2
            go_ret
            exact ⟨ret_bool (by rw [HE.out, hnE]; first | rfl | simp [*]), B_w3.out⟩
          | true =>
            go_wp2_with fail
            refine (K5.out _).mono ?_
            rintro e _ ⟨rfl, rfl⟩
            cases b5 with
            | false =>
              go_wp2
              go_ret
              exact ⟨ret_bool (by rw [HE.out, hnE]; first | rfl | simp [*]), B_w3.out⟩
            | true =>
              go_wp2_with fail
              refine (K6.out _).mono ?_
              rintro e _ ⟨rfl, rfl⟩
              cases b6 with
              | false =>
                go_wp2
                go_ret
                exact ⟨ret_bool (by rw [HE.out, hnE]; first | rfl | simp [*]), B_w3.out⟩
              | true =>
                go_wp2_with fail
                refine (K7.out _).mono ?_
                rintro e _ ⟨rfl, rfl⟩
                cases b7 with
                | false =>
                  go_wp2
                  go_ret
                  exact ⟨ret_bool (by rw [HE.out, hnE]; first | rfl | simp [*]), B_w3.out⟩
                | true =>
                  go_wp2_with fail
                  refine (K8.out _).mono ?_
                  rintro e _ ⟨rfl, rfl⟩
                  cases b8 with
                  | false =>
                    go_wp2
                    go_ret
                    exact ⟨ret_bool (by rw [HE.out, hnE]; first | rfl | simp [*]), B_w3.out⟩
                  | true =>
                    cases se with
                    | true =>
                      go_wp2
                      go_ret
                      exact ⟨ret_bool (by rw [HE.out, hnE]; first | rfl | simp [*]), B_w3.out⟩
                    | false =>
                      by_cases hm2 : mo = 2
                      · have qm : (mo != 2) = false := by rw [hm2]; rfl
                        have HS : Hid (safeB false mo pt = false) := by show _ = _; unfold safeB; rw [qm]; rfl
                        clear hm2
                        go_wp2
                        go_ret
                        exact ⟨ret_bool (by rw [HE.out, hnE]; first | rfl | (rw [HS.out]; rfl) | simp [*]), B_w3.out⟩
                      · have qm : (mo != 2) = true := by rw [bne_iff_ne]; exact hm2
                        have HS : Hid (safeB false mo pt = pt.toList.isEmpty) := by show _ = _; unfold safeB; rw [qm]; rfl
                        clear hm2
                        go_wp2
                        go_ret
                        exact ⟨ret_bool (by rw [HE.out, hnE]; first | rfl | (rw [HS.out]; rfl) | simp [*]), B_w3.out⟩
end Go.Proofs.YtfoekelhcmlagaaDoor

/- The walks of the specification's l06Same and JarRight. Written by specjar.py. -/
namespace Go.Proofs.YtfoekelhcmlagaaDoor
open Go.RowKit

set_option maxRecDepth 10000 in
set_option maxHeartbeats 4000000 in
theorem specSame6_any (a b : Ck) (w : World) :
    Calls Tryd.prog 114 #[ckV a, ckV b] w fun e w' => e = .returned (.bool (sameK a b)) ∧ Below w.heap.size w w' := by
  have HE : Hid (sameK a b = ((a.ho.toList == b.ho.toList) && (a.al == b.al) && (a.pa.toList == b.pa.toList) && (a.pt.toList == b.pt.toList) && (a.na.toList == b.na.toList))) := rfl
  have HB : Hid (∀ x y : Obj, Below w.heap.size w ((w.alloc x).alloc y)) := fun x y => ((Below.refl _ _).alloc (Nat.le_refl _) _).alloc (by simp) _
  generalize sameK a b = R at *
  obtain ⟨na, va, ho, al, pa, se, mo, pt, un, ma⟩ := a
  obtain ⟨na2, va2, ho2, al2, pa2, se2, mo2, pt2, un2, ma2⟩ := b
  unfold ckV
  dsimp only at HE ⊢
  cases h1 : (ho.toList == ho2.toList) with
  | false =>
    have HQ : Hid (R = false) := by show _ = _; rw [HE.out, h1]; rfl
    go_enter Tryd.func114, Tryd.ntmps114
    go_wp2
    go_ret
    exact ⟨ret_bool HQ.out.symm, HB.out _ _⟩
  | true =>
    cases h2 : (al == al2) with
    | false =>
      have HQ : Hid (R = false) := by show _ = _; rw [HE.out, h1, h2]; rfl
      go_enter Tryd.func114, Tryd.ntmps114
      go_wp2
      go_ret
      exact ⟨ret_bool HQ.out.symm, HB.out _ _⟩
    | true =>
      cases h3 : (pa.toList == pa2.toList) with
      | false =>
        have HQ : Hid (R = false) := by show _ = _; rw [HE.out, h1, h2, h3]; rfl
        go_enter Tryd.func114, Tryd.ntmps114
        go_wp2
        go_ret
        exact ⟨ret_bool HQ.out.symm, HB.out _ _⟩
      | true =>
        cases h4 : (pt.toList == pt2.toList) with
        | false =>
          have HQ : Hid (R = false) := by show _ = _; rw [HE.out, h1, h2, h3, h4]; rfl
          go_enter Tryd.func114, Tryd.ntmps114
          go_wp2
          go_ret
          exact ⟨ret_bool HQ.out.symm, HB.out _ _⟩
        | true =>
          have HQ : Hid (R = (na.toList == na2.toList)) := by show _ = _; rw [HE.out, h1, h2, h3, h4]; rfl
          go_enter Tryd.func114, Tryd.ntmps114
          go_wp2
          go_ret
          exact ⟨ret_bool HQ.out.symm, HB.out _ _⟩

set_option maxRecDepth 10000 in
set_option maxHeartbeats 8000000 in
theorem specJar_any (v : Value) (L : List Ck) (B : Nat) (w : World) (hs : SliceC w B v L) (hn : L.length ≤ 1048576) (hz : ∀ i, i < L.length → (atC L i).na.size ≤ 1048576 ∧ (atC L i).va.size ≤ 1048576) :
    Calls Tryd.prog 52 #[v] w fun e w' => e = .returned (.bool (jarB L)) ∧ Below w.heap.size w w' := by
  have KX : Hid (∀ j, j < L.length → ∀ W, Calls Tryd.prog 48 #[ckV (atC L j)] W fun e w' => e = .returned (.bool (ckB (atC L j))) ∧ Below W.heap.size W w') := fun j hj W => specCookie_any _ W (hz j hj).1 (hz j hj).2
  have HN : Hid (∀ k, k < L.length → okJ L k = false → jarB L = false) := fun k a b => jarB_at k a b
  have HY : Hid ((∀ i, i < L.length → okJ L i = true) → jarB L = decide ((L.length : Int) ≤ 12)) := fun h => by
    rw [jarB_all h, decide_eq_decide]; omega
  obtain ⟨⟨q, cap, rfl, hg⟩, -⟩ := hs
  have HG : Hid (0 < L.length → ∃ g, q = some ⟨g, 0, none⟩ ∧ g < w.heap.size ∧ ∀ j, j < L.length → ∀ o, o < 10 → w.cell? ⟨g, j * 10 + o, none⟩ = some (ckC (atC L j) o)) := fun h0 => by
    obtain ⟨g, e, -, hgw, hc⟩ := hg h0
    exact ⟨g, e, hgw, fun j hj o ho => (hc j hj o ho).1⟩
  clear hg hz
  generalize jarB L = R at *
  go_enter Tryd.func52, Tryd.ntmps52
  go_wp2
  go_loopw [3] (fun i wr => ∃ k : Nat, k ≤ L.length ∧ i = .int .i64 k ∧ Hid (Below w.heap.size w wr) ∧ Hid (∀ j, j < k → okJ L j = true)) (fun i _ => L.length - (intOf i).toNat)
  case atStart => exact ⟨0, Nat.zero_le _, rfl, Below.refl _ _, fun j hj => absurd hj (by omega)⟩
  case round =>
    obtain ⟨k, hk, rfl, HB, HR⟩ := hrel
    by_cases hlt : k < L.length
    · obtain ⟨g, rfl, hgw, hc⟩ := HG.out (by omega)
      have HC : Hid (∀ j, j < L.length → ∀ o, o < 10 → w.cell? ⟨g, j * 10 + o, none⟩ = some (ckC (atC L j) o)) := hc
      have hgr : g < wr.heap.size := Nat.lt_of_lt_of_le hgw HB.out.size
      have KC0 := KX.out k hlt
      have k0 : (0 : Int) ≤ k := by omega
      have k1 : (k : Int) < L.length := by omega
      have HKN : Hid (ckB (atC L k) = false → R = false) := fun e => HN.out k hlt (okJ_no e)
      have HKY : Hid (ckB (atC L k) = true → (k = 0 ∨ (atC L (k - 1)).ma < (atC L k).ma) → (∀ i, i < k → sameK (atC L i) (atC L k) = false) → okJ L k = true) := fun a b c => okJ_yes a b c
      have HSN : Hid (∀ j, j < k → sameK (atC L j) (atC L k) = true → R = false) := fun j hj e => HN.out k hlt (okJ_same j hj e)
      clear hc
      generalize hcb : ckB (atC L k) = cb at *
      clear hcb
      have c0 : wr.cell? ⟨g, k * 10, none⟩ = some (.string (atC L k).na) := by rw [(bcell HB.out).1 _ _ hgw]; exact HC.out k hlt 0 (by omega)
      have c1 : wr.cell? ⟨g, k * 10 + 1, none⟩ = some (.string (atC L k).va) := by rw [(bcell HB.out).1 _ _ hgw]; exact HC.out k hlt 1 (by omega)
      have c2 : wr.cell? ⟨g, k * 10 + 2, none⟩ = some (.string (atC L k).ho) := by rw [(bcell HB.out).1 _ _ hgw]; exact HC.out k hlt 2 (by omega)
      have c3 : wr.cell? ⟨g, k * 10 + 3, none⟩ = some (.bool (atC L k).al) := by rw [(bcell HB.out).1 _ _ hgw]; exact HC.out k hlt 3 (by omega)
      have c4 : wr.cell? ⟨g, k * 10 + 4, none⟩ = some (.string (atC L k).pa) := by rw [(bcell HB.out).1 _ _ hgw]; exact HC.out k hlt 4 (by omega)
      have c5 : wr.cell? ⟨g, k * 10 + 5, none⟩ = some (.bool (atC L k).se) := by rw [(bcell HB.out).1 _ _ hgw]; exact HC.out k hlt 5 (by omega)
      have c6 : wr.cell? ⟨g, k * 10 + 6, none⟩ = some (.int .i64 (atC L k).mo) := by rw [(bcell HB.out).1 _ _ hgw]; exact HC.out k hlt 6 (by omega)
      have c7 : wr.cell? ⟨g, k * 10 + 7, none⟩ = some (.string (atC L k).pt) := by rw [(bcell HB.out).1 _ _ hgw]; exact HC.out k hlt 7 (by omega)
      have c8 : wr.cell? ⟨g, k * 10 + 8, none⟩ = some (.int .i64 (atC L k).un) := by rw [(bcell HB.out).1 _ _ hgw]; exact HC.out k hlt 8 (by omega)
      have c9 : wr.cell? ⟨g, k * 10 + 9, none⟩ = some (.int .i64 (atC L k).ma) := by rw [(bcell HB.out).1 _ _ hgw]; exact HC.out k hlt 9 (by omega)
      cases cb with
      | false =>
        have HQ : Hid (R = false) := HKN.out rfl
        clear HKN HKY HSN
        generalize atC L k = y at *
        obtain ⟨na, va, ho, al, pa, se, mo, pt, un, ma⟩ := y
        unfold ckV at KC0
        dsimp only at *
        have KC : Hid (∀ W, Calls Tryd.prog 48 #[.agg #[.string na, .string va, .string ho, .bool al, .string pa, .bool se, .int .i64 mo, .string pt, .int .i64 un, .int .i64 ma]] W fun e w' => e = .returned (.bool false) ∧ Below W.heap.size W w') := KC0
        clear KC0
        go_wp2_with fail
        refine wp_region_held_drew (S := (fun w' => w'.cell? ⟨g, k * 10, none⟩ = some (.string na) ∧ w'.cell? ⟨g, k * 10 + 1, none⟩ = some (.string va) ∧ w'.cell? ⟨g, k * 10 + 2, none⟩ = some (.string ho) ∧ w'.cell? ⟨g, k * 10 + 3, none⟩ = some (.bool al) ∧ w'.cell? ⟨g, k * 10 + 4, none⟩ = some (.string pa) ∧ w'.cell? ⟨g, k * 10 + 5, none⟩ = some (.bool se) ∧ w'.cell? ⟨g, k * 10 + 6, none⟩ = some (.int .i64 mo) ∧ w'.cell? ⟨g, k * 10 + 7, none⟩ = some (.string pt) ∧ w'.cell? ⟨g, k * 10 + 8, none⟩ = some (.int .i64 un) ∧ w'.cell? ⟨g, k * 10 + 9, none⟩ = some (.int .i64 ma))) (by kernel_rfl) ?_ (fun hH0 => ?_)
        · (try dsimp only)
          go_keep
        refine wpAnyH_take (i := 0) (oi := { dst := some 11, op := Op.move (Operand.tmp 0), type := 65, pos := "l06_jar.go:18", after := #[], guard := none }) (v := ?va0) rfl (by kernel_rfl) (by kernel_rfl) (by kernel_rfl) (fun _ _ _ h => h) (Or.inl ⟨by rfl, ?hya0⟩) (by assumption) ?resta0
        case hya0 =>
          intro w hSw
          (try dsimp only at hSw)
          go_simp
          try with_reducible rfl
        try simp only [Act.put, List.setIfInBounds_toArray, List.set_cons_zero, List.set_cons_succ]
        refine wpAnyH_take (i := 1) (oi := { dst := some 12, op := Op.move (Operand.tmp 3), type := 3, pos := "l06_jar.go:18", after := #[], guard := none }) (v := ?va1) rfl (by kernel_rfl) (by kernel_rfl) (by kernel_rfl) (fun _ _ _ h => h) (Or.inl ⟨by rfl, ?hya1⟩) (by assumption) ?resta1
        case hya1 =>
          intro w hSw
          (try dsimp only at hSw)
          go_simp
          try with_reducible rfl
        try simp only [Act.put, List.setIfInBounds_toArray, List.set_cons_zero, List.set_cons_succ]
        refine wpAnyH_take (i := 2) (oi := { dst := some 13, op := Op.indexAddr 65 (Operand.tmp 11) (Operand.tmp 12), type := 0, pos := "l06_jar.go:18", after := #[{ on := 0, ground := Ground.data }, { on := 1, ground := Ground.data }], guard := none }) (v := ?va2) rfl (by kernel_rfl) (by kernel_rfl) (by kernel_rfl) (fun _ _ _ h => h) (Or.inl ⟨by rfl, ?hya2⟩) (by assumption) ?resta2
        case hya2 =>
          intro w hSw
          (try dsimp only at hSw)
          go_simp
          try with_reducible rfl
        try simp only [Act.put, List.setIfInBounds_toArray, List.set_cons_zero, List.set_cons_succ]
        refine wpAnyH_take (i := 3) (oi := { dst := some 14, op := Op.load 59 (Operand.tmp 13), type := 59, pos := "l06_jar.go:18", after := #[{ on := 2, ground := Ground.data }], guard := none }) (v := ?va3) rfl (by kernel_rfl) (by kernel_rfl) (by kernel_rfl) (fun _ _ _ h => h) (Or.inl ⟨by rfl, ?hya3⟩) (by assumption) ?resta3
        case hya3 =>
          intro w hSw
          (try dsimp only at hSw)
          go_simp
          try with_reducible rfl
        try simp only [Act.put, List.setIfInBounds_toArray, List.set_cons_zero, List.set_cons_succ]
        refine wpAnyH_ready (rs := [4]) (by kernel_rfl) (by simp) ?_
        refine AllReadyH.cons (o := { dst := some 15, op := Op.call { callee := Callee.value (Operand.func 48), args := #[Operand.tmp 14], argTypes := #[59] }, type := 4, pos := "l06_jar.go:18", after := #[{ on := 3, ground := Ground.data }], guard := none }) rfl (fun K hK => ?_) AllReadyH.nil
        go_simp
        (go_at_call 48; refine (KC.out _).mono ?_; rintro e w2 ⟨rfl, hb2⟩; have x0 : w2.cell? ⟨g, k * 10, none⟩ = some (.string na) := ((bcell hb2).1 _ _ hgr).trans c0; have x1 : w2.cell? ⟨g, k * 10 + 1, none⟩ = some (.string va) := ((bcell hb2).1 _ _ hgr).trans c1; have x2 : w2.cell? ⟨g, k * 10 + 2, none⟩ = some (.string ho) := ((bcell hb2).1 _ _ hgr).trans c2; have x3 : w2.cell? ⟨g, k * 10 + 3, none⟩ = some (.bool al) := ((bcell hb2).1 _ _ hgr).trans c3; have x4 : w2.cell? ⟨g, k * 10 + 4, none⟩ = some (.string pa) := ((bcell hb2).1 _ _ hgr).trans c4; have x5 : w2.cell? ⟨g, k * 10 + 5, none⟩ = some (.bool se) := ((bcell hb2).1 _ _ hgr).trans c5; have x6 : w2.cell? ⟨g, k * 10 + 6, none⟩ = some (.int .i64 mo) := ((bcell hb2).1 _ _ hgr).trans c6; have x7 : w2.cell? ⟨g, k * 10 + 7, none⟩ = some (.string pt) := ((bcell hb2).1 _ _ hgr).trans c7; have x8 : w2.cell? ⟨g, k * 10 + 8, none⟩ = some (.int .i64 un) := ((bcell hb2).1 _ _ hgr).trans c8; have x9 : w2.cell? ⟨g, k * 10 + 9, none⟩ = some (.int .i64 ma) := ((bcell hb2).1 _ _ hgr).trans c9)
        try (go_wp2_with fail)
        refine hK.out _ _ ?_ (fun hH1 => ?_)
        · (try dsimp only)
          go_keep
        clear hK K hH0
        try simp only [Act.put, List.setIfInBounds_toArray, List.set_cons_zero, List.set_cons_succ]
        refine wpAnyH_take (i := 5) (oi := { dst := some 16, op := Op.unOp UnOp.not 4 (Operand.tmp 15), type := 4, pos := "l06_jar.go:18", after := #[{ on := 4, ground := Ground.data }], guard := none }) (v := ?va5) rfl (by kernel_rfl) (by kernel_rfl) (by kernel_rfl) (fun _ _ _ h => h) (Or.inl ⟨by rfl, ?hya5⟩) (by assumption) ?resta5
        case hya5 =>
          intro w hSw
          (try dsimp only at hSw)
          go_simp
          try with_reducible rfl
        try simp only [Act.put, List.setIfInBounds_toArray, List.set_cons_zero, List.set_cons_succ]
        refine wpAnyH_take (i := 6) (oi := { dst := some 17, op := Op.move (Operand.tmp 16), type := 4, pos := "l06_jar.go:18", after := #[{ on := 5, ground := Ground.data }, { on := 4, ground := Ground.chain }], guard := none }) (v := ?va6) rfl (by kernel_rfl) (by kernel_rfl) (by kernel_rfl) (fun _ _ _ h => h) (Or.inl ⟨by rfl, ?hya6⟩) (by assumption) ?resta6
        case hya6 =>
          intro w hSw
          (try dsimp only at hSw)
          go_simp
          try with_reducible rfl
        try simp only [Act.put, List.setIfInBounds_toArray, List.set_cons_zero, List.set_cons_succ]
        refine wpAnyH_take (i := 7) (oi := { dst := some 18, op := Op.move (Operand.tmp 3), type := 3, pos := "l06_jar.go:18", after := #[{ on := 6, ground := Ground.guard }], guard := some (6, false) }) (v := undef) rfl (by kernel_rfl) (by kernel_rfl) (by kernel_rfl) (fun _ _ _ h => h) (Or.inr ⟨by rfl, rfl⟩) (by assumption) ?_
        try simp only [Act.put, List.setIfInBounds_toArray, List.set_cons_zero, List.set_cons_succ]
        refine wpAnyH_take (i := 8) (oi := { dst := some 19, op := Op.binOp BinOp.gtr 3 (Operand.tmp 18) (Operand.const (Value.int IntKind.i64 0)) 3, type := 4, pos := "l06_jar.go:18", after := #[{ on := 7, ground := Ground.data }, { on := 6, ground := Ground.guard }], guard := some (6, false) }) (v := undef) rfl (by kernel_rfl) (by kernel_rfl) (by kernel_rfl) (fun _ _ _ h => h) (Or.inr ⟨by rfl, rfl⟩) (by assumption) ?_
        try simp only [Act.put, List.setIfInBounds_toArray, List.set_cons_zero, List.set_cons_succ]
        refine wpAnyH_take (i := 9) (oi := { dst := some 20, op := Op.move (Operand.tmp 19), type := 4, pos := "l06_jar.go:18", after := #[{ on := 8, ground := Ground.data }, { on := 6, ground := Ground.chain }, { on := 6, ground := Ground.guard }], guard := some (6, false) }) (v := undef) rfl (by kernel_rfl) (by kernel_rfl) (by kernel_rfl) (fun _ _ _ h => h) (Or.inr ⟨by rfl, rfl⟩) (by assumption) ?_
        try simp only [Act.put, List.setIfInBounds_toArray, List.set_cons_zero, List.set_cons_succ]
        refine wpAnyH_take (i := 10) (oi := { dst := some 21, op := Op.move (Operand.tmp 0), type := 65, pos := "l06_jar.go:18", after := #[{ on := 9, ground := Ground.guard }], guard := some (9, true) }) (v := undef) rfl (by kernel_rfl) (by kernel_rfl) (by kernel_rfl) (fun _ _ _ h => h) (Or.inr ⟨by rfl, rfl⟩) (by assumption) ?_
        try simp only [Act.put, List.setIfInBounds_toArray, List.set_cons_zero, List.set_cons_succ]
        refine wpAnyH_take (i := 11) (oi := { dst := some 22, op := Op.move (Operand.tmp 3), type := 3, pos := "l06_jar.go:18", after := #[{ on := 9, ground := Ground.guard }], guard := some (9, true) }) (v := undef) rfl (by kernel_rfl) (by kernel_rfl) (by kernel_rfl) (fun _ _ _ h => h) (Or.inr ⟨by rfl, rfl⟩) (by assumption) ?_
        try simp only [Act.put, List.setIfInBounds_toArray, List.set_cons_zero, List.set_cons_succ]
        refine wpAnyH_take (i := 12) (oi := { dst := some 23, op := Op.binOp BinOp.sub 3 (Operand.tmp 22) (Operand.const (Value.int IntKind.i64 1)) 3, type := 3, pos := "l06_jar.go:18", after := #[{ on := 11, ground := Ground.data }, { on := 9, ground := Ground.guard }], guard := some (9, true) }) (v := undef) rfl (by kernel_rfl) (by kernel_rfl) (by kernel_rfl) (fun _ _ _ h => h) (Or.inr ⟨by rfl, rfl⟩) (by assumption) ?_
        try simp only [Act.put, List.setIfInBounds_toArray, List.set_cons_zero, List.set_cons_succ]
        refine wpAnyH_take (i := 13) (oi := { dst := some 24, op := Op.indexAddr 65 (Operand.tmp 21) (Operand.tmp 23), type := 0, pos := "l06_jar.go:18", after := #[{ on := 10, ground := Ground.data }, { on := 12, ground := Ground.data }, { on := 9, ground := Ground.guard }], guard := some (9, true) }) (v := undef) rfl (by kernel_rfl) (by kernel_rfl) (by kernel_rfl) (fun _ _ _ h => h) (Or.inr ⟨by rfl, rfl⟩) (by assumption) ?_
        try simp only [Act.put, List.setIfInBounds_toArray, List.set_cons_zero, List.set_cons_succ]
        refine wpAnyH_take (i := 14) (oi := { dst := some 25, op := Op.fieldAddr 59 (Operand.tmp 24) 9, type := 0, pos := "l06_jar.go:18", after := #[{ on := 13, ground := Ground.data }, { on := 9, ground := Ground.guard }], guard := some (9, true) }) (v := undef) rfl (by kernel_rfl) (by kernel_rfl) (by kernel_rfl) (fun _ _ _ h => h) (Or.inr ⟨by rfl, rfl⟩) (by assumption) ?_
        try simp only [Act.put, List.setIfInBounds_toArray, List.set_cons_zero, List.set_cons_succ]
        refine wpAnyH_take (i := 15) (oi := { dst := some 26, op := Op.load 2 (Operand.tmp 25), type := 2, pos := "l06_jar.go:18", after := #[{ on := 14, ground := Ground.data }, { on := 9, ground := Ground.guard }], guard := some (9, true) }) (v := undef) rfl (by kernel_rfl) (by kernel_rfl) (by kernel_rfl) (fun _ _ _ h => h) (Or.inr ⟨by rfl, rfl⟩) (by assumption) ?_
        try simp only [Act.put, List.setIfInBounds_toArray, List.set_cons_zero, List.set_cons_succ]
        refine wpAnyH_take (i := 16) (oi := { dst := some 27, op := Op.move (Operand.tmp 0), type := 65, pos := "l06_jar.go:18", after := #[{ on := 9, ground := Ground.guard }], guard := some (9, true) }) (v := undef) rfl (by kernel_rfl) (by kernel_rfl) (by kernel_rfl) (fun _ _ _ h => h) (Or.inr ⟨by rfl, rfl⟩) (by assumption) ?_
        try simp only [Act.put, List.setIfInBounds_toArray, List.set_cons_zero, List.set_cons_succ]
        refine wpAnyH_take (i := 17) (oi := { dst := some 28, op := Op.move (Operand.tmp 3), type := 3, pos := "l06_jar.go:18", after := #[{ on := 9, ground := Ground.guard }], guard := some (9, true) }) (v := undef) rfl (by kernel_rfl) (by kernel_rfl) (by kernel_rfl) (fun _ _ _ h => h) (Or.inr ⟨by rfl, rfl⟩) (by assumption) ?_
        try simp only [Act.put, List.setIfInBounds_toArray, List.set_cons_zero, List.set_cons_succ]
        refine wpAnyH_take (i := 18) (oi := { dst := some 29, op := Op.indexAddr 65 (Operand.tmp 27) (Operand.tmp 28), type := 0, pos := "l06_jar.go:18", after := #[{ on := 16, ground := Ground.data }, { on := 17, ground := Ground.data }, { on := 9, ground := Ground.guard }], guard := some (9, true) }) (v := undef) rfl (by kernel_rfl) (by kernel_rfl) (by kernel_rfl) (fun _ _ _ h => h) (Or.inr ⟨by rfl, rfl⟩) (by assumption) ?_
        try simp only [Act.put, List.setIfInBounds_toArray, List.set_cons_zero, List.set_cons_succ]
        refine wpAnyH_take (i := 19) (oi := { dst := some 30, op := Op.fieldAddr 59 (Operand.tmp 29) 9, type := 0, pos := "l06_jar.go:18", after := #[{ on := 18, ground := Ground.data }, { on := 9, ground := Ground.guard }], guard := some (9, true) }) (v := undef) rfl (by kernel_rfl) (by kernel_rfl) (by kernel_rfl) (fun _ _ _ h => h) (Or.inr ⟨by rfl, rfl⟩) (by assumption) ?_
        try simp only [Act.put, List.setIfInBounds_toArray, List.set_cons_zero, List.set_cons_succ]
        refine wpAnyH_take (i := 20) (oi := { dst := some 31, op := Op.load 2 (Operand.tmp 30), type := 2, pos := "l06_jar.go:18", after := #[{ on := 19, ground := Ground.data }, { on := 9, ground := Ground.guard }], guard := some (9, true) }) (v := undef) rfl (by kernel_rfl) (by kernel_rfl) (by kernel_rfl) (fun _ _ _ h => h) (Or.inr ⟨by rfl, rfl⟩) (by assumption) ?_
        try simp only [Act.put, List.setIfInBounds_toArray, List.set_cons_zero, List.set_cons_succ]
        refine wpAnyH_take (i := 21) (oi := { dst := some 32, op := Op.binOp BinOp.geq 2 (Operand.tmp 26) (Operand.tmp 31) 2, type := 4, pos := "l06_jar.go:18", after := #[{ on := 15, ground := Ground.data }, { on := 20, ground := Ground.data }, { on := 9, ground := Ground.guard }], guard := some (9, true) }) (v := undef) rfl (by kernel_rfl) (by kernel_rfl) (by kernel_rfl) (fun _ _ _ h => h) (Or.inr ⟨by rfl, rfl⟩) (by assumption) ?_
        try simp only [Act.put, List.setIfInBounds_toArray, List.set_cons_zero, List.set_cons_succ]
        refine wpAnyH_take (i := 22) (oi := { dst := some 33, op := Op.pick (Operand.tmp 20) (Operand.tmp 32) (Operand.const (Value.bool false)), type := 4, pos := "l06_jar.go:18", after := #[{ on := 9, ground := Ground.data }, { on := 21, ground := Ground.data }, { on := 6, ground := Ground.guard }], guard := some (6, false) }) (v := undef) rfl (by kernel_rfl) (by kernel_rfl) (by kernel_rfl) (fun _ _ _ h => h) (Or.inr ⟨by rfl, rfl⟩) (by assumption) ?_
        try simp only [Act.put, List.setIfInBounds_toArray, List.set_cons_zero, List.set_cons_succ]
        refine wpAnyH_take (i := 23) (oi := { dst := some 34, op := Op.pick (Operand.tmp 17) (Operand.const (Value.bool true)) (Operand.tmp 33), type := 4, pos := "l06_jar.go:18", after := #[{ on := 6, ground := Ground.data }, { on := 22, ground := Ground.data }], guard := none }) (v := ?va23) rfl (by kernel_rfl) (by kernel_rfl) (by kernel_rfl) (fun _ _ _ h => h) (Or.inl ⟨by rfl, ?hya23⟩) (by assumption) ?resta23
        case hya23 =>
          intro w hSw
          (try dsimp only at hSw)
          go_simp
          try with_reducible rfl
        try simp only [Act.put, List.setIfInBounds_toArray, List.set_cons_zero, List.set_cons_succ]
        refine wpAnyH_done (by kernel_rfl) ?_ _
        go_wp2
        go_ret
        exact ⟨ret_bool HQ.out.symm, (HB.out.trans (Below.drew (Below.refl _ _))).trans (hb2.mono HB.out.size)⟩
      | true =>
        have HKY1 := HKY.out rfl
        clear HKN HKY
        cases k with
        | zero =>
          have HKY : Hid ((∀ i, i < 0 → sameK (atC L i) (atC L 0) = false) → okJ L 0 = true) := HKY1 (.inl rfl)
          clear HKY1 HSN
          rw [Nat.zero_mul] at c0 c1 c2 c3 c4 c5 c6 c7 c8 c9
          rw [Nat.zero_add] at c1
          rw [Nat.zero_add] at c2
          rw [Nat.zero_add] at c3
          rw [Nat.zero_add] at c4
          rw [Nat.zero_add] at c5
          rw [Nat.zero_add] at c6
          rw [Nat.zero_add] at c7
          rw [Nat.zero_add] at c8
          rw [Nat.zero_add] at c9
          generalize atC L 0 = y at *
          obtain ⟨na, va, ho, al, pa, se, mo, pt, un, ma⟩ := y
          unfold ckV at KC0
          dsimp only at *
          have KC : Hid (∀ W, Calls Tryd.prog 48 #[.agg #[.string na, .string va, .string ho, .bool al, .string pa, .bool se, .int .i64 mo, .string pt, .int .i64 un, .int .i64 ma]] W fun e w' => e = .returned (.bool true) ∧ Below W.heap.size W w') := KC0
          clear KC0
          have q2 : decide ((0 : Int) < ((0 : Nat) : Int)) = false := by decide
          go_wp2_with fail
          refine wp_region_held_drew (S := (fun w' => w'.cell? ⟨g, 0, none⟩ = some (.string na) ∧ w'.cell? ⟨g, 1, none⟩ = some (.string va) ∧ w'.cell? ⟨g, 2, none⟩ = some (.string ho) ∧ w'.cell? ⟨g, 3, none⟩ = some (.bool al) ∧ w'.cell? ⟨g, 4, none⟩ = some (.string pa) ∧ w'.cell? ⟨g, 5, none⟩ = some (.bool se) ∧ w'.cell? ⟨g, 6, none⟩ = some (.int .i64 mo) ∧ w'.cell? ⟨g, 7, none⟩ = some (.string pt) ∧ w'.cell? ⟨g, 8, none⟩ = some (.int .i64 un) ∧ w'.cell? ⟨g, 9, none⟩ = some (.int .i64 ma))) (by kernel_rfl) ?_ (fun hH0 => ?_)
          · (try dsimp only)
            go_keep
          refine wpAnyH_take (i := 0) (oi := { dst := some 11, op := Op.move (Operand.tmp 0), type := 65, pos := "l06_jar.go:18", after := #[], guard := none }) (v := ?vb0) rfl (by kernel_rfl) (by kernel_rfl) (by kernel_rfl) (fun _ _ _ h => h) (Or.inl ⟨by rfl, ?hyb0⟩) (by assumption) ?restb0
          case hyb0 =>
            intro w hSw
            (try dsimp only at hSw)
            go_simp
            try with_reducible rfl
          try simp only [Act.put, List.setIfInBounds_toArray, List.set_cons_zero, List.set_cons_succ]
          refine wpAnyH_take (i := 1) (oi := { dst := some 12, op := Op.move (Operand.tmp 3), type := 3, pos := "l06_jar.go:18", after := #[], guard := none }) (v := ?vb1) rfl (by kernel_rfl) (by kernel_rfl) (by kernel_rfl) (fun _ _ _ h => h) (Or.inl ⟨by rfl, ?hyb1⟩) (by assumption) ?restb1
          case hyb1 =>
            intro w hSw
            (try dsimp only at hSw)
            go_simp
            try with_reducible rfl
          try simp only [Act.put, List.setIfInBounds_toArray, List.set_cons_zero, List.set_cons_succ]
          refine wpAnyH_take (i := 2) (oi := { dst := some 13, op := Op.indexAddr 65 (Operand.tmp 11) (Operand.tmp 12), type := 0, pos := "l06_jar.go:18", after := #[{ on := 0, ground := Ground.data }, { on := 1, ground := Ground.data }], guard := none }) (v := ?vb2) rfl (by kernel_rfl) (by kernel_rfl) (by kernel_rfl) (fun _ _ _ h => h) (Or.inl ⟨by rfl, ?hyb2⟩) (by assumption) ?restb2
          case hyb2 =>
            intro w hSw
            (try dsimp only at hSw)
            go_simp
            try with_reducible rfl
          try simp only [Act.put, List.setIfInBounds_toArray, List.set_cons_zero, List.set_cons_succ]
          refine wpAnyH_take (i := 3) (oi := { dst := some 14, op := Op.load 59 (Operand.tmp 13), type := 59, pos := "l06_jar.go:18", after := #[{ on := 2, ground := Ground.data }], guard := none }) (v := ?vb3) rfl (by kernel_rfl) (by kernel_rfl) (by kernel_rfl) (fun _ _ _ h => h) (Or.inl ⟨by rfl, ?hyb3⟩) (by assumption) ?restb3
          case hyb3 =>
            intro w hSw
            (try dsimp only at hSw)
            go_simp
            try with_reducible rfl
          try simp only [Act.put, List.setIfInBounds_toArray, List.set_cons_zero, List.set_cons_succ]
          refine wpAnyH_ready (rs := [4]) (by kernel_rfl) (by simp) ?_
          refine AllReadyH.cons (o := { dst := some 15, op := Op.call { callee := Callee.value (Operand.func 48), args := #[Operand.tmp 14], argTypes := #[59] }, type := 4, pos := "l06_jar.go:18", after := #[{ on := 3, ground := Ground.data }], guard := none }) rfl (fun K hK => ?_) AllReadyH.nil
          go_simp
          (go_at_call 48; refine (KC.out _).mono ?_; rintro e w2 ⟨rfl, hb2⟩; have x0 : w2.cell? ⟨g, 0, none⟩ = some (.string na) := ((bcell hb2).1 _ _ hgr).trans c0; have x1 : w2.cell? ⟨g, 1, none⟩ = some (.string va) := ((bcell hb2).1 _ _ hgr).trans c1; have x2 : w2.cell? ⟨g, 2, none⟩ = some (.string ho) := ((bcell hb2).1 _ _ hgr).trans c2; have x3 : w2.cell? ⟨g, 3, none⟩ = some (.bool al) := ((bcell hb2).1 _ _ hgr).trans c3; have x4 : w2.cell? ⟨g, 4, none⟩ = some (.string pa) := ((bcell hb2).1 _ _ hgr).trans c4; have x5 : w2.cell? ⟨g, 5, none⟩ = some (.bool se) := ((bcell hb2).1 _ _ hgr).trans c5; have x6 : w2.cell? ⟨g, 6, none⟩ = some (.int .i64 mo) := ((bcell hb2).1 _ _ hgr).trans c6; have x7 : w2.cell? ⟨g, 7, none⟩ = some (.string pt) := ((bcell hb2).1 _ _ hgr).trans c7; have x8 : w2.cell? ⟨g, 8, none⟩ = some (.int .i64 un) := ((bcell hb2).1 _ _ hgr).trans c8; have x9 : w2.cell? ⟨g, 9, none⟩ = some (.int .i64 ma) := ((bcell hb2).1 _ _ hgr).trans c9)
          try (go_wp2_with fail)
          refine hK.out _ _ ?_ (fun hH1 => ?_)
          · (try dsimp only)
            go_keep
          clear hK K hH0
          try simp only [Act.put, List.setIfInBounds_toArray, List.set_cons_zero, List.set_cons_succ]
          refine wpAnyH_take (i := 5) (oi := { dst := some 16, op := Op.unOp UnOp.not 4 (Operand.tmp 15), type := 4, pos := "l06_jar.go:18", after := #[{ on := 4, ground := Ground.data }], guard := none }) (v := ?vb5) rfl (by kernel_rfl) (by kernel_rfl) (by kernel_rfl) (fun _ _ _ h => h) (Or.inl ⟨by rfl, ?hyb5⟩) (by assumption) ?restb5
          case hyb5 =>
            intro w hSw
            (try dsimp only at hSw)
            go_simp
            try with_reducible rfl
          try simp only [Act.put, List.setIfInBounds_toArray, List.set_cons_zero, List.set_cons_succ]
          refine wpAnyH_take (i := 6) (oi := { dst := some 17, op := Op.move (Operand.tmp 16), type := 4, pos := "l06_jar.go:18", after := #[{ on := 5, ground := Ground.data }, { on := 4, ground := Ground.chain }], guard := none }) (v := ?vb6) rfl (by kernel_rfl) (by kernel_rfl) (by kernel_rfl) (fun _ _ _ h => h) (Or.inl ⟨by rfl, ?hyb6⟩) (by assumption) ?restb6
          case hyb6 =>
            intro w hSw
            (try dsimp only at hSw)
            go_simp
            try with_reducible rfl
          try simp only [Act.put, List.setIfInBounds_toArray, List.set_cons_zero, List.set_cons_succ]
          refine wpAnyH_take (i := 7) (oi := { dst := some 18, op := Op.move (Operand.tmp 3), type := 3, pos := "l06_jar.go:18", after := #[{ on := 6, ground := Ground.guard }], guard := some (6, false) }) (v := ?vb7) rfl (by kernel_rfl) (by kernel_rfl) (by kernel_rfl) (fun _ _ _ h => h) (Or.inl ⟨by rfl, ?hyb7⟩) (by assumption) ?restb7
          case hyb7 =>
            intro w hSw
            (try dsimp only at hSw)
            go_simp
            try with_reducible rfl
          try simp only [Act.put, List.setIfInBounds_toArray, List.set_cons_zero, List.set_cons_succ]
          refine wpAnyH_take (i := 8) (oi := { dst := some 19, op := Op.binOp BinOp.gtr 3 (Operand.tmp 18) (Operand.const (Value.int IntKind.i64 0)) 3, type := 4, pos := "l06_jar.go:18", after := #[{ on := 7, ground := Ground.data }, { on := 6, ground := Ground.guard }], guard := some (6, false) }) (v := ?vb8) rfl (by kernel_rfl) (by kernel_rfl) (by kernel_rfl) (fun _ _ _ h => h) (Or.inl ⟨by rfl, ?hyb8⟩) (by assumption) ?restb8
          case hyb8 =>
            intro w hSw
            (try dsimp only at hSw)
            go_simp
            try with_reducible rfl
          try simp only [Act.put, List.setIfInBounds_toArray, List.set_cons_zero, List.set_cons_succ]
          refine wpAnyH_take (i := 9) (oi := { dst := some 20, op := Op.move (Operand.tmp 19), type := 4, pos := "l06_jar.go:18", after := #[{ on := 8, ground := Ground.data }, { on := 6, ground := Ground.chain }, { on := 6, ground := Ground.guard }], guard := some (6, false) }) (v := ?vb9) rfl (by kernel_rfl) (by kernel_rfl) (by kernel_rfl) (fun _ _ _ h => h) (Or.inl ⟨by rfl, ?hyb9⟩) (by assumption) ?restb9
          case hyb9 =>
            intro w hSw
            (try dsimp only at hSw)
            go_simp
            try with_reducible rfl
          try simp only [Act.put, List.setIfInBounds_toArray, List.set_cons_zero, List.set_cons_succ]
          refine wpAnyH_take (i := 10) (oi := { dst := some 21, op := Op.move (Operand.tmp 0), type := 65, pos := "l06_jar.go:18", after := #[{ on := 9, ground := Ground.guard }], guard := some (9, true) }) (v := undef) rfl (by kernel_rfl) (by kernel_rfl) (by kernel_rfl) (fun _ _ _ h => h) (Or.inr ⟨by rfl, rfl⟩) (by assumption) ?_
          try simp only [Act.put, List.setIfInBounds_toArray, List.set_cons_zero, List.set_cons_succ]
          refine wpAnyH_take (i := 11) (oi := { dst := some 22, op := Op.move (Operand.tmp 3), type := 3, pos := "l06_jar.go:18", after := #[{ on := 9, ground := Ground.guard }], guard := some (9, true) }) (v := undef) rfl (by kernel_rfl) (by kernel_rfl) (by kernel_rfl) (fun _ _ _ h => h) (Or.inr ⟨by rfl, rfl⟩) (by assumption) ?_
          try simp only [Act.put, List.setIfInBounds_toArray, List.set_cons_zero, List.set_cons_succ]
          refine wpAnyH_take (i := 12) (oi := { dst := some 23, op := Op.binOp BinOp.sub 3 (Operand.tmp 22) (Operand.const (Value.int IntKind.i64 1)) 3, type := 3, pos := "l06_jar.go:18", after := #[{ on := 11, ground := Ground.data }, { on := 9, ground := Ground.guard }], guard := some (9, true) }) (v := undef) rfl (by kernel_rfl) (by kernel_rfl) (by kernel_rfl) (fun _ _ _ h => h) (Or.inr ⟨by rfl, rfl⟩) (by assumption) ?_
          try simp only [Act.put, List.setIfInBounds_toArray, List.set_cons_zero, List.set_cons_succ]
          refine wpAnyH_take (i := 13) (oi := { dst := some 24, op := Op.indexAddr 65 (Operand.tmp 21) (Operand.tmp 23), type := 0, pos := "l06_jar.go:18", after := #[{ on := 10, ground := Ground.data }, { on := 12, ground := Ground.data }, { on := 9, ground := Ground.guard }], guard := some (9, true) }) (v := undef) rfl (by kernel_rfl) (by kernel_rfl) (by kernel_rfl) (fun _ _ _ h => h) (Or.inr ⟨by rfl, rfl⟩) (by assumption) ?_
          try simp only [Act.put, List.setIfInBounds_toArray, List.set_cons_zero, List.set_cons_succ]
          refine wpAnyH_take (i := 14) (oi := { dst := some 25, op := Op.fieldAddr 59 (Operand.tmp 24) 9, type := 0, pos := "l06_jar.go:18", after := #[{ on := 13, ground := Ground.data }, { on := 9, ground := Ground.guard }], guard := some (9, true) }) (v := undef) rfl (by kernel_rfl) (by kernel_rfl) (by kernel_rfl) (fun _ _ _ h => h) (Or.inr ⟨by rfl, rfl⟩) (by assumption) ?_
          try simp only [Act.put, List.setIfInBounds_toArray, List.set_cons_zero, List.set_cons_succ]
          refine wpAnyH_take (i := 15) (oi := { dst := some 26, op := Op.load 2 (Operand.tmp 25), type := 2, pos := "l06_jar.go:18", after := #[{ on := 14, ground := Ground.data }, { on := 9, ground := Ground.guard }], guard := some (9, true) }) (v := undef) rfl (by kernel_rfl) (by kernel_rfl) (by kernel_rfl) (fun _ _ _ h => h) (Or.inr ⟨by rfl, rfl⟩) (by assumption) ?_
          try simp only [Act.put, List.setIfInBounds_toArray, List.set_cons_zero, List.set_cons_succ]
          refine wpAnyH_take (i := 16) (oi := { dst := some 27, op := Op.move (Operand.tmp 0), type := 65, pos := "l06_jar.go:18", after := #[{ on := 9, ground := Ground.guard }], guard := some (9, true) }) (v := undef) rfl (by kernel_rfl) (by kernel_rfl) (by kernel_rfl) (fun _ _ _ h => h) (Or.inr ⟨by rfl, rfl⟩) (by assumption) ?_
          try simp only [Act.put, List.setIfInBounds_toArray, List.set_cons_zero, List.set_cons_succ]
          refine wpAnyH_take (i := 17) (oi := { dst := some 28, op := Op.move (Operand.tmp 3), type := 3, pos := "l06_jar.go:18", after := #[{ on := 9, ground := Ground.guard }], guard := some (9, true) }) (v := undef) rfl (by kernel_rfl) (by kernel_rfl) (by kernel_rfl) (fun _ _ _ h => h) (Or.inr ⟨by rfl, rfl⟩) (by assumption) ?_
          try simp only [Act.put, List.setIfInBounds_toArray, List.set_cons_zero, List.set_cons_succ]
          refine wpAnyH_take (i := 18) (oi := { dst := some 29, op := Op.indexAddr 65 (Operand.tmp 27) (Operand.tmp 28), type := 0, pos := "l06_jar.go:18", after := #[{ on := 16, ground := Ground.data }, { on := 17, ground := Ground.data }, { on := 9, ground := Ground.guard }], guard := some (9, true) }) (v := undef) rfl (by kernel_rfl) (by kernel_rfl) (by kernel_rfl) (fun _ _ _ h => h) (Or.inr ⟨by rfl, rfl⟩) (by assumption) ?_
          try simp only [Act.put, List.setIfInBounds_toArray, List.set_cons_zero, List.set_cons_succ]
          refine wpAnyH_take (i := 19) (oi := { dst := some 30, op := Op.fieldAddr 59 (Operand.tmp 29) 9, type := 0, pos := "l06_jar.go:18", after := #[{ on := 18, ground := Ground.data }, { on := 9, ground := Ground.guard }], guard := some (9, true) }) (v := undef) rfl (by kernel_rfl) (by kernel_rfl) (by kernel_rfl) (fun _ _ _ h => h) (Or.inr ⟨by rfl, rfl⟩) (by assumption) ?_
          try simp only [Act.put, List.setIfInBounds_toArray, List.set_cons_zero, List.set_cons_succ]
          refine wpAnyH_take (i := 20) (oi := { dst := some 31, op := Op.load 2 (Operand.tmp 30), type := 2, pos := "l06_jar.go:18", after := #[{ on := 19, ground := Ground.data }, { on := 9, ground := Ground.guard }], guard := some (9, true) }) (v := undef) rfl (by kernel_rfl) (by kernel_rfl) (by kernel_rfl) (fun _ _ _ h => h) (Or.inr ⟨by rfl, rfl⟩) (by assumption) ?_
          try simp only [Act.put, List.setIfInBounds_toArray, List.set_cons_zero, List.set_cons_succ]
          refine wpAnyH_take (i := 21) (oi := { dst := some 32, op := Op.binOp BinOp.geq 2 (Operand.tmp 26) (Operand.tmp 31) 2, type := 4, pos := "l06_jar.go:18", after := #[{ on := 15, ground := Ground.data }, { on := 20, ground := Ground.data }, { on := 9, ground := Ground.guard }], guard := some (9, true) }) (v := undef) rfl (by kernel_rfl) (by kernel_rfl) (by kernel_rfl) (fun _ _ _ h => h) (Or.inr ⟨by rfl, rfl⟩) (by assumption) ?_
          try simp only [Act.put, List.setIfInBounds_toArray, List.set_cons_zero, List.set_cons_succ]
          refine wpAnyH_take (i := 22) (oi := { dst := some 33, op := Op.pick (Operand.tmp 20) (Operand.tmp 32) (Operand.const (Value.bool false)), type := 4, pos := "l06_jar.go:18", after := #[{ on := 9, ground := Ground.data }, { on := 21, ground := Ground.data }, { on := 6, ground := Ground.guard }], guard := some (6, false) }) (v := ?vb22) rfl (by kernel_rfl) (by kernel_rfl) (by kernel_rfl) (fun _ _ _ h => h) (Or.inl ⟨by rfl, ?hyb22⟩) (by assumption) ?restb22
          case hyb22 =>
            intro w hSw
            (try dsimp only at hSw)
            go_simp
            try with_reducible rfl
          try simp only [Act.put, List.setIfInBounds_toArray, List.set_cons_zero, List.set_cons_succ]
          refine wpAnyH_take (i := 23) (oi := { dst := some 34, op := Op.pick (Operand.tmp 17) (Operand.const (Value.bool true)) (Operand.tmp 33), type := 4, pos := "l06_jar.go:18", after := #[{ on := 6, ground := Ground.data }, { on := 22, ground := Ground.data }], guard := none }) (v := ?vb23) rfl (by kernel_rfl) (by kernel_rfl) (by kernel_rfl) (fun _ _ _ h => h) (Or.inl ⟨by rfl, ?hyb23⟩) (by assumption) ?restb23
          case hyb23 =>
            intro w hSw
            (try dsimp only at hSw)
            go_simp
            try with_reducible rfl
          try simp only [Act.put, List.setIfInBounds_toArray, List.set_cons_zero, List.set_cons_succ]
          refine wpAnyH_done (by kernel_rfl) ?_ _
          have B2 : Hid (Below w.heap.size w w2) := (HB.out.trans (Below.drew (Below.refl _ _))).trans (hb2.mono HB.out.size)
          have hg2 : g < w2.heap.size := Nat.lt_of_lt_of_le hgr (Nat.le_trans (Below.drew (Below.refl wr.heap.size wr)).size hb2.size)
          clear hb2
          go_wp2
          go_loopw [4] (fun i w3 => ∃ j : Nat, j ≤ 0 ∧ i = .int .i64 j ∧ Hid (Below w2.heap.size w2 w3) ∧ Hid (∀ i', i' < j → sameK (atC L i') ⟨na, va, ho, al, pa, se, mo, pt, un, ma⟩ = false)) (fun i _ => 0 - (intOf i).toNat)
          case atStart => exact ⟨0, Nat.zero_le _, rfl, Below.refl _ _, fun j hj => absurd hj (by omega)⟩
          case round =>
            obtain ⟨j, hj, rfl, HB3, HR3⟩ := hrel
            obtain rfl : j = 0 := by omega
            have HK2 : Hid (okJ L 0 = true) := HKY.out (fun k hk => absurd hk (by omega))
            go_wp2
            go_roundw
            case rel => exact ⟨1, by omega, by go_num, B2.out.trans (HB3.out.mono B2.out.size), okJ_succ (k := 0) (fun i hi => absurd hi (by omega)) HK2.out⟩
            case measure => simp [intOf]; omega
        | succ m =>
          have cm0 : wr.cell? ⟨g, m * 10 + 9, none⟩ = some (.int .i64 (atC L m).ma) := by rw [(bcell HB.out).1 _ _ hgw]; exact HC.out m (by omega) 9 (by omega)
          have HMN : Hid (¬ (atC L m).ma < (atC L (m + 1)).ma → R = false) := fun e => HN.out (m + 1) hlt (okJ_made e)
          have HKY2 : Hid ((atC L m).ma < (atC L (m + 1)).ma → (∀ i, i < m + 1 → sameK (atC L i) (atC L (m + 1)) = false) → okJ L (m + 1) = true) := fun a => HKY1 (.inr a)
          clear HKY1
          generalize hpm : (atC L m).ma = pm at *
          clear hpm
          have q2 : decide ((0 : Int) < ((m : Int) + 1)) = true := by rw [decide_eq_true_iff]; omega
          have hw1 : IntKind.i64.wrap ((m : Int) + 1 - 1) = m := by
            rw [IntKind.wrap_i64]; omega
          have hw2 : IntKind.i64.wrap (m : Int) = m := by rw [IntKind.wrap_i64]; omega
          have p0 : (0 : Int) ≤ (m : Int) + 1 := by omega
          have p1 : (m : Int) + 1 < L.length := by omega
          have m0 : (0 : Int) ≤ m := by omega
          have m1 : (m : Int) < L.length := by omega
          generalize atC L (m + 1) = y at *
          obtain ⟨na, va, ho, al, pa, se, mo, pt, un, ma⟩ := y
          unfold ckV at KC0
          dsimp only at *
          have KC : Hid (∀ W, Calls Tryd.prog 48 #[.agg #[.string na, .string va, .string ho, .bool al, .string pa, .bool se, .int .i64 mo, .string pt, .int .i64 un, .int .i64 ma]] W fun e w' => e = .returned (.bool true) ∧ Below W.heap.size W w') := KC0
          have cm : wr.cell? ⟨g, m * 10 + 9, none⟩ = some (.int .i64 pm) := cm0
          clear KC0 cm0
          by_cases hlm : pm < ma
          · have qg : decide (ma ≤ pm) = false := by rw [decide_eq_false_iff_not]; omega
            have HKY : Hid ((∀ i, i < m + 1 → sameK (atC L i) ⟨na, va, ho, al, pa, se, mo, pt, un, ma⟩ = false) → okJ L (m + 1) = true) := HKY2.out hlm
            clear HKY2 HMN
            go_wp2_with fail
            refine wp_region_held_drew (S := (fun w' => w'.cell? ⟨g, (m + 1) * 10, none⟩ = some (.string na) ∧ w'.cell? ⟨g, (m + 1) * 10 + 1, none⟩ = some (.string va) ∧ w'.cell? ⟨g, (m + 1) * 10 + 2, none⟩ = some (.string ho) ∧ w'.cell? ⟨g, (m + 1) * 10 + 3, none⟩ = some (.bool al) ∧ w'.cell? ⟨g, (m + 1) * 10 + 4, none⟩ = some (.string pa) ∧ w'.cell? ⟨g, (m + 1) * 10 + 5, none⟩ = some (.bool se) ∧ w'.cell? ⟨g, (m + 1) * 10 + 6, none⟩ = some (.int .i64 mo) ∧ w'.cell? ⟨g, (m + 1) * 10 + 7, none⟩ = some (.string pt) ∧ w'.cell? ⟨g, (m + 1) * 10 + 8, none⟩ = some (.int .i64 un) ∧ w'.cell? ⟨g, (m + 1) * 10 + 9, none⟩ = some (.int .i64 ma) ∧ w'.cell? ⟨g, m * 10 + 9, none⟩ = some (.int .i64 pm))) (by kernel_rfl) ?_ (fun hH0 => ?_)
            · (try dsimp only)
              go_keep
            refine wpAnyH_take (i := 0) (oi := { dst := some 11, op := Op.move (Operand.tmp 0), type := 65, pos := "l06_jar.go:18", after := #[], guard := none }) (v := ?vc0) rfl (by kernel_rfl) (by kernel_rfl) (by kernel_rfl) (fun _ _ _ h => h) (Or.inl ⟨by rfl, ?hyc0⟩) (by assumption) ?restc0
            case hyc0 =>
              intro w hSw
              (try dsimp only at hSw)
              go_simp
              try with_reducible rfl
            try simp only [Act.put, List.setIfInBounds_toArray, List.set_cons_zero, List.set_cons_succ]
            refine wpAnyH_take (i := 1) (oi := { dst := some 12, op := Op.move (Operand.tmp 3), type := 3, pos := "l06_jar.go:18", after := #[], guard := none }) (v := ?vc1) rfl (by kernel_rfl) (by kernel_rfl) (by kernel_rfl) (fun _ _ _ h => h) (Or.inl ⟨by rfl, ?hyc1⟩) (by assumption) ?restc1
            case hyc1 =>
              intro w hSw
              (try dsimp only at hSw)
              go_simp
              try with_reducible rfl
            try simp only [Act.put, List.setIfInBounds_toArray, List.set_cons_zero, List.set_cons_succ]
            refine wpAnyH_take (i := 2) (oi := { dst := some 13, op := Op.indexAddr 65 (Operand.tmp 11) (Operand.tmp 12), type := 0, pos := "l06_jar.go:18", after := #[{ on := 0, ground := Ground.data }, { on := 1, ground := Ground.data }], guard := none }) (v := ?vc2) rfl (by kernel_rfl) (by kernel_rfl) (by kernel_rfl) (fun _ _ _ h => h) (Or.inl ⟨by rfl, ?hyc2⟩) (by assumption) ?restc2
            case hyc2 =>
              intro w hSw
              (try dsimp only at hSw)
              go_simp
              try with_reducible rfl
            try simp only [Act.put, List.setIfInBounds_toArray, List.set_cons_zero, List.set_cons_succ]
            refine wpAnyH_take (i := 3) (oi := { dst := some 14, op := Op.load 59 (Operand.tmp 13), type := 59, pos := "l06_jar.go:18", after := #[{ on := 2, ground := Ground.data }], guard := none }) (v := ?vc3) rfl (by kernel_rfl) (by kernel_rfl) (by kernel_rfl) (fun _ _ _ h => h) (Or.inl ⟨by rfl, ?hyc3⟩) (by assumption) ?restc3
            case hyc3 =>
              intro w hSw
              (try dsimp only at hSw)
              go_simp
              try with_reducible rfl
            try simp only [Act.put, List.setIfInBounds_toArray, List.set_cons_zero, List.set_cons_succ]
            refine wpAnyH_ready (rs := [4]) (by kernel_rfl) (by simp) ?_
            refine AllReadyH.cons (o := { dst := some 15, op := Op.call { callee := Callee.value (Operand.func 48), args := #[Operand.tmp 14], argTypes := #[59] }, type := 4, pos := "l06_jar.go:18", after := #[{ on := 3, ground := Ground.data }], guard := none }) rfl (fun K hK => ?_) AllReadyH.nil
            go_simp
            (go_at_call 48; refine (KC.out _).mono ?_; rintro e w2 ⟨rfl, hb2⟩; have x0 : w2.cell? ⟨g, (m + 1) * 10, none⟩ = some (.string na) := ((bcell hb2).1 _ _ hgr).trans c0; have x1 : w2.cell? ⟨g, (m + 1) * 10 + 1, none⟩ = some (.string va) := ((bcell hb2).1 _ _ hgr).trans c1; have x2 : w2.cell? ⟨g, (m + 1) * 10 + 2, none⟩ = some (.string ho) := ((bcell hb2).1 _ _ hgr).trans c2; have x3 : w2.cell? ⟨g, (m + 1) * 10 + 3, none⟩ = some (.bool al) := ((bcell hb2).1 _ _ hgr).trans c3; have x4 : w2.cell? ⟨g, (m + 1) * 10 + 4, none⟩ = some (.string pa) := ((bcell hb2).1 _ _ hgr).trans c4; have x5 : w2.cell? ⟨g, (m + 1) * 10 + 5, none⟩ = some (.bool se) := ((bcell hb2).1 _ _ hgr).trans c5; have x6 : w2.cell? ⟨g, (m + 1) * 10 + 6, none⟩ = some (.int .i64 mo) := ((bcell hb2).1 _ _ hgr).trans c6; have x7 : w2.cell? ⟨g, (m + 1) * 10 + 7, none⟩ = some (.string pt) := ((bcell hb2).1 _ _ hgr).trans c7; have x8 : w2.cell? ⟨g, (m + 1) * 10 + 8, none⟩ = some (.int .i64 un) := ((bcell hb2).1 _ _ hgr).trans c8; have x9 : w2.cell? ⟨g, (m + 1) * 10 + 9, none⟩ = some (.int .i64 ma) := ((bcell hb2).1 _ _ hgr).trans c9; have xm : w2.cell? ⟨g, m * 10 + 9, none⟩ = some (.int .i64 pm) := ((bcell hb2).1 _ _ hgr).trans cm)
            try (go_wp2_with fail)
            refine hK.out _ _ ?_ (fun hH1 => ?_)
            · (try dsimp only)
              go_keep
            clear hK K hH0
            try simp only [Act.put, List.setIfInBounds_toArray, List.set_cons_zero, List.set_cons_succ]
            refine wpAnyH_take (i := 5) (oi := { dst := some 16, op := Op.unOp UnOp.not 4 (Operand.tmp 15), type := 4, pos := "l06_jar.go:18", after := #[{ on := 4, ground := Ground.data }], guard := none }) (v := ?vc5) rfl (by kernel_rfl) (by kernel_rfl) (by kernel_rfl) (fun _ _ _ h => h) (Or.inl ⟨by rfl, ?hyc5⟩) (by assumption) ?restc5
            case hyc5 =>
              intro w hSw
              (try dsimp only at hSw)
              go_simp
              try with_reducible rfl
            try simp only [Act.put, List.setIfInBounds_toArray, List.set_cons_zero, List.set_cons_succ]
            refine wpAnyH_take (i := 6) (oi := { dst := some 17, op := Op.move (Operand.tmp 16), type := 4, pos := "l06_jar.go:18", after := #[{ on := 5, ground := Ground.data }, { on := 4, ground := Ground.chain }], guard := none }) (v := ?vc6) rfl (by kernel_rfl) (by kernel_rfl) (by kernel_rfl) (fun _ _ _ h => h) (Or.inl ⟨by rfl, ?hyc6⟩) (by assumption) ?restc6
            case hyc6 =>
              intro w hSw
              (try dsimp only at hSw)
              go_simp
              try with_reducible rfl
            try simp only [Act.put, List.setIfInBounds_toArray, List.set_cons_zero, List.set_cons_succ]
            refine wpAnyH_take (i := 7) (oi := { dst := some 18, op := Op.move (Operand.tmp 3), type := 3, pos := "l06_jar.go:18", after := #[{ on := 6, ground := Ground.guard }], guard := some (6, false) }) (v := ?vc7) rfl (by kernel_rfl) (by kernel_rfl) (by kernel_rfl) (fun _ _ _ h => h) (Or.inl ⟨by rfl, ?hyc7⟩) (by assumption) ?restc7
            case hyc7 =>
              intro w hSw
              (try dsimp only at hSw)
              go_simp
              try with_reducible rfl
            try simp only [Act.put, List.setIfInBounds_toArray, List.set_cons_zero, List.set_cons_succ]
            refine wpAnyH_take (i := 8) (oi := { dst := some 19, op := Op.binOp BinOp.gtr 3 (Operand.tmp 18) (Operand.const (Value.int IntKind.i64 0)) 3, type := 4, pos := "l06_jar.go:18", after := #[{ on := 7, ground := Ground.data }, { on := 6, ground := Ground.guard }], guard := some (6, false) }) (v := ?vc8) rfl (by kernel_rfl) (by kernel_rfl) (by kernel_rfl) (fun _ _ _ h => h) (Or.inl ⟨by rfl, ?hyc8⟩) (by assumption) ?restc8
            case hyc8 =>
              intro w hSw
              (try dsimp only at hSw)
              go_simp
              try with_reducible rfl
            try simp only [Act.put, List.setIfInBounds_toArray, List.set_cons_zero, List.set_cons_succ]
            refine wpAnyH_take (i := 9) (oi := { dst := some 20, op := Op.move (Operand.tmp 19), type := 4, pos := "l06_jar.go:18", after := #[{ on := 8, ground := Ground.data }, { on := 6, ground := Ground.chain }, { on := 6, ground := Ground.guard }], guard := some (6, false) }) (v := ?vc9) rfl (by kernel_rfl) (by kernel_rfl) (by kernel_rfl) (fun _ _ _ h => h) (Or.inl ⟨by rfl, ?hyc9⟩) (by assumption) ?restc9
            case hyc9 =>
              intro w hSw
              (try dsimp only at hSw)
              go_simp
              try with_reducible rfl
            try simp only [Act.put, List.setIfInBounds_toArray, List.set_cons_zero, List.set_cons_succ]
            refine wpAnyH_take (i := 10) (oi := { dst := some 21, op := Op.move (Operand.tmp 0), type := 65, pos := "l06_jar.go:18", after := #[{ on := 9, ground := Ground.guard }], guard := some (9, true) }) (v := ?vc10) rfl (by kernel_rfl) (by kernel_rfl) (by kernel_rfl) (fun _ _ _ h => h) (Or.inl ⟨by rfl, ?hyc10⟩) (by assumption) ?restc10
            case hyc10 =>
              intro w hSw
              (try dsimp only at hSw)
              go_simp
              try with_reducible rfl
            try simp only [Act.put, List.setIfInBounds_toArray, List.set_cons_zero, List.set_cons_succ]
            refine wpAnyH_take (i := 11) (oi := { dst := some 22, op := Op.move (Operand.tmp 3), type := 3, pos := "l06_jar.go:18", after := #[{ on := 9, ground := Ground.guard }], guard := some (9, true) }) (v := ?vc11) rfl (by kernel_rfl) (by kernel_rfl) (by kernel_rfl) (fun _ _ _ h => h) (Or.inl ⟨by rfl, ?hyc11⟩) (by assumption) ?restc11
            case hyc11 =>
              intro w hSw
              (try dsimp only at hSw)
              go_simp
              try with_reducible rfl
            try simp only [Act.put, List.setIfInBounds_toArray, List.set_cons_zero, List.set_cons_succ]
            refine wpAnyH_take (i := 12) (oi := { dst := some 23, op := Op.binOp BinOp.sub 3 (Operand.tmp 22) (Operand.const (Value.int IntKind.i64 1)) 3, type := 3, pos := "l06_jar.go:18", after := #[{ on := 11, ground := Ground.data }, { on := 9, ground := Ground.guard }], guard := some (9, true) }) (v := ?vc12) rfl (by kernel_rfl) (by kernel_rfl) (by kernel_rfl) (fun _ _ _ h => h) (Or.inl ⟨by rfl, ?hyc12⟩) (by assumption) ?restc12
            case hyc12 =>
              intro w hSw
              (try dsimp only at hSw)
              go_simp
              try with_reducible rfl
            try simp only [Act.put, List.setIfInBounds_toArray, List.set_cons_zero, List.set_cons_succ]
            refine wpAnyH_take (i := 13) (oi := { dst := some 24, op := Op.indexAddr 65 (Operand.tmp 21) (Operand.tmp 23), type := 0, pos := "l06_jar.go:18", after := #[{ on := 10, ground := Ground.data }, { on := 12, ground := Ground.data }, { on := 9, ground := Ground.guard }], guard := some (9, true) }) (v := ?vc13) rfl (by kernel_rfl) (by kernel_rfl) (by kernel_rfl) (fun _ _ _ h => h) (Or.inl ⟨by rfl, ?hyc13⟩) (by assumption) ?restc13
            case hyc13 =>
              intro w hSw
              (try dsimp only at hSw)
              go_simp
              try with_reducible rfl
            try simp only [Act.put, List.setIfInBounds_toArray, List.set_cons_zero, List.set_cons_succ]
            refine wpAnyH_take (i := 14) (oi := { dst := some 25, op := Op.fieldAddr 59 (Operand.tmp 24) 9, type := 0, pos := "l06_jar.go:18", after := #[{ on := 13, ground := Ground.data }, { on := 9, ground := Ground.guard }], guard := some (9, true) }) (v := ?vc14) rfl (by kernel_rfl) (by kernel_rfl) (by kernel_rfl) (fun _ _ _ h => h) (Or.inl ⟨by rfl, ?hyc14⟩) (by assumption) ?restc14
            case hyc14 =>
              intro w hSw
              (try dsimp only at hSw)
              go_simp
              try with_reducible rfl
            try simp only [Act.put, List.setIfInBounds_toArray, List.set_cons_zero, List.set_cons_succ]
            refine wpAnyH_take (i := 15) (oi := { dst := some 26, op := Op.load 2 (Operand.tmp 25), type := 2, pos := "l06_jar.go:18", after := #[{ on := 14, ground := Ground.data }, { on := 9, ground := Ground.guard }], guard := some (9, true) }) (v := ?vc15) rfl (by kernel_rfl) (by kernel_rfl) (by kernel_rfl) (fun _ _ _ h => h) (Or.inl ⟨by rfl, ?hyc15⟩) (by assumption) ?restc15
            case hyc15 =>
              intro w hSw
              (try dsimp only at hSw)
              go_simp
              try with_reducible rfl
            try simp only [Act.put, List.setIfInBounds_toArray, List.set_cons_zero, List.set_cons_succ]
            refine wpAnyH_take (i := 16) (oi := { dst := some 27, op := Op.move (Operand.tmp 0), type := 65, pos := "l06_jar.go:18", after := #[{ on := 9, ground := Ground.guard }], guard := some (9, true) }) (v := ?vc16) rfl (by kernel_rfl) (by kernel_rfl) (by kernel_rfl) (fun _ _ _ h => h) (Or.inl ⟨by rfl, ?hyc16⟩) (by assumption) ?restc16
            case hyc16 =>
              intro w hSw
              (try dsimp only at hSw)
              go_simp
              try with_reducible rfl
            try simp only [Act.put, List.setIfInBounds_toArray, List.set_cons_zero, List.set_cons_succ]
            refine wpAnyH_take (i := 17) (oi := { dst := some 28, op := Op.move (Operand.tmp 3), type := 3, pos := "l06_jar.go:18", after := #[{ on := 9, ground := Ground.guard }], guard := some (9, true) }) (v := ?vc17) rfl (by kernel_rfl) (by kernel_rfl) (by kernel_rfl) (fun _ _ _ h => h) (Or.inl ⟨by rfl, ?hyc17⟩) (by assumption) ?restc17
            case hyc17 =>
              intro w hSw
              (try dsimp only at hSw)
              go_simp
              try with_reducible rfl
            try simp only [Act.put, List.setIfInBounds_toArray, List.set_cons_zero, List.set_cons_succ]
            refine wpAnyH_take (i := 18) (oi := { dst := some 29, op := Op.indexAddr 65 (Operand.tmp 27) (Operand.tmp 28), type := 0, pos := "l06_jar.go:18", after := #[{ on := 16, ground := Ground.data }, { on := 17, ground := Ground.data }, { on := 9, ground := Ground.guard }], guard := some (9, true) }) (v := ?vc18) rfl (by kernel_rfl) (by kernel_rfl) (by kernel_rfl) (fun _ _ _ h => h) (Or.inl ⟨by rfl, ?hyc18⟩) (by assumption) ?restc18
            case hyc18 =>
              intro w hSw
              (try dsimp only at hSw)
              go_simp
              try with_reducible rfl
            try simp only [Act.put, List.setIfInBounds_toArray, List.set_cons_zero, List.set_cons_succ]
            refine wpAnyH_take (i := 19) (oi := { dst := some 30, op := Op.fieldAddr 59 (Operand.tmp 29) 9, type := 0, pos := "l06_jar.go:18", after := #[{ on := 18, ground := Ground.data }, { on := 9, ground := Ground.guard }], guard := some (9, true) }) (v := ?vc19) rfl (by kernel_rfl) (by kernel_rfl) (by kernel_rfl) (fun _ _ _ h => h) (Or.inl ⟨by rfl, ?hyc19⟩) (by assumption) ?restc19
            case hyc19 =>
              intro w hSw
              (try dsimp only at hSw)
              go_simp
              try with_reducible rfl
            try simp only [Act.put, List.setIfInBounds_toArray, List.set_cons_zero, List.set_cons_succ]
            refine wpAnyH_take (i := 20) (oi := { dst := some 31, op := Op.load 2 (Operand.tmp 30), type := 2, pos := "l06_jar.go:18", after := #[{ on := 19, ground := Ground.data }, { on := 9, ground := Ground.guard }], guard := some (9, true) }) (v := ?vc20) rfl (by kernel_rfl) (by kernel_rfl) (by kernel_rfl) (fun _ _ _ h => h) (Or.inl ⟨by rfl, ?hyc20⟩) (by assumption) ?restc20
            case hyc20 =>
              intro w hSw
              (try dsimp only at hSw)
              go_simp
              try with_reducible rfl
            try simp only [Act.put, List.setIfInBounds_toArray, List.set_cons_zero, List.set_cons_succ]
            refine wpAnyH_take (i := 21) (oi := { dst := some 32, op := Op.binOp BinOp.geq 2 (Operand.tmp 26) (Operand.tmp 31) 2, type := 4, pos := "l06_jar.go:18", after := #[{ on := 15, ground := Ground.data }, { on := 20, ground := Ground.data }, { on := 9, ground := Ground.guard }], guard := some (9, true) }) (v := ?vc21) rfl (by kernel_rfl) (by kernel_rfl) (by kernel_rfl) (fun _ _ _ h => h) (Or.inl ⟨by rfl, ?hyc21⟩) (by assumption) ?restc21
            case hyc21 =>
              intro w hSw
              (try dsimp only at hSw)
              go_simp
              try with_reducible rfl
            try simp only [Act.put, List.setIfInBounds_toArray, List.set_cons_zero, List.set_cons_succ]
            refine wpAnyH_take (i := 22) (oi := { dst := some 33, op := Op.pick (Operand.tmp 20) (Operand.tmp 32) (Operand.const (Value.bool false)), type := 4, pos := "l06_jar.go:18", after := #[{ on := 9, ground := Ground.data }, { on := 21, ground := Ground.data }, { on := 6, ground := Ground.guard }], guard := some (6, false) }) (v := ?vc22) rfl (by kernel_rfl) (by kernel_rfl) (by kernel_rfl) (fun _ _ _ h => h) (Or.inl ⟨by rfl, ?hyc22⟩) (by assumption) ?restc22
            case hyc22 =>
              intro w hSw
              (try dsimp only at hSw)
              go_simp
              try with_reducible rfl
            try simp only [Act.put, List.setIfInBounds_toArray, List.set_cons_zero, List.set_cons_succ]
            refine wpAnyH_take (i := 23) (oi := { dst := some 34, op := Op.pick (Operand.tmp 17) (Operand.const (Value.bool true)) (Operand.tmp 33), type := 4, pos := "l06_jar.go:18", after := #[{ on := 6, ground := Ground.data }, { on := 22, ground := Ground.data }], guard := none }) (v := ?vc23) rfl (by kernel_rfl) (by kernel_rfl) (by kernel_rfl) (fun _ _ _ h => h) (Or.inl ⟨by rfl, ?hyc23⟩) (by assumption) ?restc23
            case hyc23 =>
              intro w hSw
              (try dsimp only at hSw)
              go_simp
              try with_reducible rfl
            try simp only [Act.put, List.setIfInBounds_toArray, List.set_cons_zero, List.set_cons_succ]
            refine wpAnyH_done (by kernel_rfl) ?_ _
            have B2 : Hid (Below w.heap.size w w2) := (HB.out.trans (Below.drew (Below.refl _ _))).trans (hb2.mono HB.out.size)
            have hg2 : g < w2.heap.size := Nat.lt_of_lt_of_le hgr (Nat.le_trans (Below.drew (Below.refl wr.heap.size wr)).size hb2.size)
            clear hb2
            go_wp2
            go_loopw [4] (fun i w3 => ∃ j : Nat, j ≤ (m + 1) ∧ i = .int .i64 j ∧ Hid (Below w2.heap.size w2 w3) ∧ Hid (∀ i', i' < j → sameK (atC L i') ⟨na, va, ho, al, pa, se, mo, pt, un, ma⟩ = false)) (fun i _ => (m + 1) - (intOf i).toNat)
            case atStart => exact ⟨0, Nat.zero_le _, rfl, Below.refl _ _, fun j hj => absurd hj (by omega)⟩
            case round =>
              obtain ⟨j, hj, rfl, HB3, HR3⟩ := hrel
              by_cases hjl : j < m + 1
              · have j0 : (0 : Int) ≤ j := by omega
                have j1 : (j : Int) < L.length := by omega
                have j2 : (j : Int) < (m : Int) + 1 := by omega
                have hg3 : g < wr.heap.size := Nat.lt_of_lt_of_le hg2 HB3.out.size
                have y0 : wr.cell? ⟨g, (m + 1) * 10, none⟩ = some (.string na) := ((bcell HB3.out).1 _ _ hg2).trans x0
                have y1 : wr.cell? ⟨g, (m + 1) * 10 + 1, none⟩ = some (.string va) := ((bcell HB3.out).1 _ _ hg2).trans x1
                have y2 : wr.cell? ⟨g, (m + 1) * 10 + 2, none⟩ = some (.string ho) := ((bcell HB3.out).1 _ _ hg2).trans x2
                have y3 : wr.cell? ⟨g, (m + 1) * 10 + 3, none⟩ = some (.bool al) := ((bcell HB3.out).1 _ _ hg2).trans x3
                have y4 : wr.cell? ⟨g, (m + 1) * 10 + 4, none⟩ = some (.string pa) := ((bcell HB3.out).1 _ _ hg2).trans x4
                have y5 : wr.cell? ⟨g, (m + 1) * 10 + 5, none⟩ = some (.bool se) := ((bcell HB3.out).1 _ _ hg2).trans x5
                have y6 : wr.cell? ⟨g, (m + 1) * 10 + 6, none⟩ = some (.int .i64 mo) := ((bcell HB3.out).1 _ _ hg2).trans x6
                have y7 : wr.cell? ⟨g, (m + 1) * 10 + 7, none⟩ = some (.string pt) := ((bcell HB3.out).1 _ _ hg2).trans x7
                have y8 : wr.cell? ⟨g, (m + 1) * 10 + 8, none⟩ = some (.int .i64 un) := ((bcell HB3.out).1 _ _ hg2).trans x8
                have y9 : wr.cell? ⟨g, (m + 1) * 10 + 9, none⟩ = some (.int .i64 ma) := ((bcell HB3.out).1 _ _ hg2).trans x9
                have z0 : wr.cell? ⟨g, j * 10, none⟩ = some (.string (atC L j).na) := ((bcell (B2.out.trans (HB3.out.mono B2.out.size))).1 _ _ hgw).trans (HC.out j (by omega) 0 (by omega))
                have z1 : wr.cell? ⟨g, j * 10 + 1, none⟩ = some (.string (atC L j).va) := ((bcell (B2.out.trans (HB3.out.mono B2.out.size))).1 _ _ hgw).trans (HC.out j (by omega) 1 (by omega))
                have z2 : wr.cell? ⟨g, j * 10 + 2, none⟩ = some (.string (atC L j).ho) := ((bcell (B2.out.trans (HB3.out.mono B2.out.size))).1 _ _ hgw).trans (HC.out j (by omega) 2 (by omega))
                have z3 : wr.cell? ⟨g, j * 10 + 3, none⟩ = some (.bool (atC L j).al) := ((bcell (B2.out.trans (HB3.out.mono B2.out.size))).1 _ _ hgw).trans (HC.out j (by omega) 3 (by omega))
                have z4 : wr.cell? ⟨g, j * 10 + 4, none⟩ = some (.string (atC L j).pa) := ((bcell (B2.out.trans (HB3.out.mono B2.out.size))).1 _ _ hgw).trans (HC.out j (by omega) 4 (by omega))
                have z5 : wr.cell? ⟨g, j * 10 + 5, none⟩ = some (.bool (atC L j).se) := ((bcell (B2.out.trans (HB3.out.mono B2.out.size))).1 _ _ hgw).trans (HC.out j (by omega) 5 (by omega))
                have z6 : wr.cell? ⟨g, j * 10 + 6, none⟩ = some (.int .i64 (atC L j).mo) := ((bcell (B2.out.trans (HB3.out.mono B2.out.size))).1 _ _ hgw).trans (HC.out j (by omega) 6 (by omega))
                have z7 : wr.cell? ⟨g, j * 10 + 7, none⟩ = some (.string (atC L j).pt) := ((bcell (B2.out.trans (HB3.out.mono B2.out.size))).1 _ _ hgw).trans (HC.out j (by omega) 7 (by omega))
                have z8 : wr.cell? ⟨g, j * 10 + 8, none⟩ = some (.int .i64 (atC L j).un) := ((bcell (B2.out.trans (HB3.out.mono B2.out.size))).1 _ _ hgw).trans (HC.out j (by omega) 8 (by omega))
                have z9 : wr.cell? ⟨g, j * 10 + 9, none⟩ = some (.int .i64 (atC L j).ma) := ((bcell (B2.out.trans (HB3.out.mono B2.out.size))).1 _ _ hgw).trans (HC.out j (by omega) 9 (by omega))
                have KE0 : ∀ W, Calls Tryd.prog 114 #[ckV (atC L j), ckV ⟨na, va, ho, al, pa, se, mo, pt, un, ma⟩] W fun e w' => e = .returned (.bool (sameK (atC L j) ⟨na, va, ho, al, pa, se, mo, pt, un, ma⟩)) ∧ Below W.heap.size W w' := fun W => specSame6_any _ _ W
                have HN3 : Hid (sameK (atC L j) ⟨na, va, ho, al, pa, se, mo, pt, un, ma⟩ = true → R = false) := fun e => HSN.out j hjl e
                have HN4 : Hid (sameK (atC L j) ⟨na, va, ho, al, pa, se, mo, pt, un, ma⟩ = false → ∀ i', i' < j + 1 → sameK (atC L i') ⟨na, va, ho, al, pa, se, mo, pt, un, ma⟩ = false) := fun e i' hi' => by
                  by_cases e2 : i' = j
                  · subst e2; exact e
                  · exact HR3.out i' (by omega)
                generalize hsm : sameK (atC L j) ⟨na, va, ho, al, pa, se, mo, pt, un, ma⟩ = sm at *
                clear hsm
                generalize atC L j = zz at *
                obtain ⟨zna, zva, zho, zal, zpa, zse, zmo, zpt, zun, zma⟩ := zz
                unfold ckV at KE0
                dsimp only at *
                have KE : Hid (∀ W, Calls Tryd.prog 114 #[.agg #[.string zna, .string zva, .string zho, .bool zal, .string zpa, .bool zse, .int .i64 zmo, .string zpt, .int .i64 zun, .int .i64 zma], .agg #[.string na, .string va, .string ho, .bool al, .string pa, .bool se, .int .i64 mo, .string pt, .int .i64 un, .int .i64 ma]] W fun e w' => e = .returned (.bool sm) ∧ Below W.heap.size W w') := KE0
                clear KE0
                go_wp2_with fail
                go_region_held3 (fun w' => w'.cell? ⟨g, j * 10, none⟩ = some (.string zna) ∧ w'.cell? ⟨g, j * 10 + 1, none⟩ = some (.string zva) ∧ w'.cell? ⟨g, j * 10 + 2, none⟩ = some (.string zho) ∧ w'.cell? ⟨g, j * 10 + 3, none⟩ = some (.bool zal) ∧ w'.cell? ⟨g, j * 10 + 4, none⟩ = some (.string zpa) ∧ w'.cell? ⟨g, j * 10 + 5, none⟩ = some (.bool zse) ∧ w'.cell? ⟨g, j * 10 + 6, none⟩ = some (.int .i64 zmo) ∧ w'.cell? ⟨g, j * 10 + 7, none⟩ = some (.string zpt) ∧ w'.cell? ⟨g, j * 10 + 8, none⟩ = some (.int .i64 zun) ∧ w'.cell? ⟨g, j * 10 + 9, none⟩ = some (.int .i64 zma) ∧ w'.cell? ⟨g, (m + 1) * 10, none⟩ = some (.string na) ∧ w'.cell? ⟨g, (m + 1) * 10 + 1, none⟩ = some (.string va) ∧ w'.cell? ⟨g, (m + 1) * 10 + 2, none⟩ = some (.string ho) ∧ w'.cell? ⟨g, (m + 1) * 10 + 3, none⟩ = some (.bool al) ∧ w'.cell? ⟨g, (m + 1) * 10 + 4, none⟩ = some (.string pa) ∧ w'.cell? ⟨g, (m + 1) * 10 + 5, none⟩ = some (.bool se) ∧ w'.cell? ⟨g, (m + 1) * 10 + 6, none⟩ = some (.int .i64 mo) ∧ w'.cell? ⟨g, (m + 1) * 10 + 7, none⟩ = some (.string pt) ∧ w'.cell? ⟨g, (m + 1) * 10 + 8, none⟩ = some (.int .i64 un) ∧ w'.cell? ⟨g, (m + 1) * 10 + 9, none⟩ = some (.int .i64 ma)) (go_keep)
                  (first | (go_at_call 114; refine (KE.out _).mono ?_; rintro e w4 ⟨rfl, hb4⟩; have A4 : Below wr.heap.size wr w4 := (Below.drew (Below.refl _ _)).trans hb4; have p0 : w4.cell? ⟨g, j * 10, none⟩ = some (.string zna) := ((bcell A4).1 _ _ hg3).trans z0; have p1 : w4.cell? ⟨g, j * 10 + 1, none⟩ = some (.string zva) := ((bcell A4).1 _ _ hg3).trans z1; have p2 : w4.cell? ⟨g, j * 10 + 2, none⟩ = some (.string zho) := ((bcell A4).1 _ _ hg3).trans z2; have p3 : w4.cell? ⟨g, j * 10 + 3, none⟩ = some (.bool zal) := ((bcell A4).1 _ _ hg3).trans z3; have p4 : w4.cell? ⟨g, j * 10 + 4, none⟩ = some (.string zpa) := ((bcell A4).1 _ _ hg3).trans z4; have p5 : w4.cell? ⟨g, j * 10 + 5, none⟩ = some (.bool zse) := ((bcell A4).1 _ _ hg3).trans z5; have p6 : w4.cell? ⟨g, j * 10 + 6, none⟩ = some (.int .i64 zmo) := ((bcell A4).1 _ _ hg3).trans z6; have p7 : w4.cell? ⟨g, j * 10 + 7, none⟩ = some (.string zpt) := ((bcell A4).1 _ _ hg3).trans z7; have p8 : w4.cell? ⟨g, j * 10 + 8, none⟩ = some (.int .i64 zun) := ((bcell A4).1 _ _ hg3).trans z8; have p9 : w4.cell? ⟨g, j * 10 + 9, none⟩ = some (.int .i64 zma) := ((bcell A4).1 _ _ hg3).trans z9; have q0 : w4.cell? ⟨g, (m + 1) * 10, none⟩ = some (.string na) := ((bcell A4).1 _ _ hg3).trans y0; have q1 : w4.cell? ⟨g, (m + 1) * 10 + 1, none⟩ = some (.string va) := ((bcell A4).1 _ _ hg3).trans y1; have q2 : w4.cell? ⟨g, (m + 1) * 10 + 2, none⟩ = some (.string ho) := ((bcell A4).1 _ _ hg3).trans y2; have q3 : w4.cell? ⟨g, (m + 1) * 10 + 3, none⟩ = some (.bool al) := ((bcell A4).1 _ _ hg3).trans y3; have q4 : w4.cell? ⟨g, (m + 1) * 10 + 4, none⟩ = some (.string pa) := ((bcell A4).1 _ _ hg3).trans y4; have q5 : w4.cell? ⟨g, (m + 1) * 10 + 5, none⟩ = some (.bool se) := ((bcell A4).1 _ _ hg3).trans y5; have q6 : w4.cell? ⟨g, (m + 1) * 10 + 6, none⟩ = some (.int .i64 mo) := ((bcell A4).1 _ _ hg3).trans y6; have q7 : w4.cell? ⟨g, (m + 1) * 10 + 7, none⟩ = some (.string pt) := ((bcell A4).1 _ _ hg3).trans y7; have q8 : w4.cell? ⟨g, (m + 1) * 10 + 8, none⟩ = some (.int .i64 un) := ((bcell A4).1 _ _ hg3).trans y8; have q9 : w4.cell? ⟨g, (m + 1) * 10 + 9, none⟩ = some (.int .i64 ma) := ((bcell A4).1 _ _ hg3).trans y9))
                have B4 : Hid (Below w2.heap.size w2 w4) := HB3.out.trans (A4.mono HB3.out.size)
                clear A4 hb4
                cases sm with
                | true =>
                  have HQ : Hid (R = false) := HN3.out rfl
                  go_wp2
                  go_ret
                  exact ⟨ret_bool HQ.out.symm, B2.out.trans (B4.out.mono B2.out.size)⟩
                | false =>
                  have HN5 : Hid (∀ i', i' < j + 1 → sameK (atC L i') ⟨na, va, ho, al, pa, se, mo, pt, un, ma⟩ = false) := HN4.out rfl
                  go_wp2
                  go_roundw
                  case rel => exact ⟨j + 1, by omega, by go_num, B4, HN5⟩
                  case measure => simp [intOf]; omega
              · have HK2 : Hid (okJ L (m + 1) = true) := HKY.out (fun k hk => HR3.out k (by omega))
                go_wp2
                go_roundw
                case rel => exact ⟨m + 2, by omega, by go_num, B2.out.trans (HB3.out.mono B2.out.size), okJ_succ HR.out HK2.out⟩
                case measure => simp [intOf]; omega
          · have qg : decide (ma ≤ pm) = true := by rw [decide_eq_true_iff]; omega
            have HQ : Hid (R = false) := HMN.out hlm
            clear HKY2 HMN HSN
            go_wp2_with fail
            refine wp_region_held_drew (S := (fun w' => w'.cell? ⟨g, (m + 1) * 10, none⟩ = some (.string na) ∧ w'.cell? ⟨g, (m + 1) * 10 + 1, none⟩ = some (.string va) ∧ w'.cell? ⟨g, (m + 1) * 10 + 2, none⟩ = some (.string ho) ∧ w'.cell? ⟨g, (m + 1) * 10 + 3, none⟩ = some (.bool al) ∧ w'.cell? ⟨g, (m + 1) * 10 + 4, none⟩ = some (.string pa) ∧ w'.cell? ⟨g, (m + 1) * 10 + 5, none⟩ = some (.bool se) ∧ w'.cell? ⟨g, (m + 1) * 10 + 6, none⟩ = some (.int .i64 mo) ∧ w'.cell? ⟨g, (m + 1) * 10 + 7, none⟩ = some (.string pt) ∧ w'.cell? ⟨g, (m + 1) * 10 + 8, none⟩ = some (.int .i64 un) ∧ w'.cell? ⟨g, (m + 1) * 10 + 9, none⟩ = some (.int .i64 ma) ∧ w'.cell? ⟨g, m * 10 + 9, none⟩ = some (.int .i64 pm))) (by kernel_rfl) ?_ (fun hH0 => ?_)
            · (try dsimp only)
              go_keep
            refine wpAnyH_take (i := 0) (oi := { dst := some 11, op := Op.move (Operand.tmp 0), type := 65, pos := "l06_jar.go:18", after := #[], guard := none }) (v := ?vd0) rfl (by kernel_rfl) (by kernel_rfl) (by kernel_rfl) (fun _ _ _ h => h) (Or.inl ⟨by rfl, ?hyd0⟩) (by assumption) ?restd0
            case hyd0 =>
              intro w hSw
              (try dsimp only at hSw)
              go_simp
              try with_reducible rfl
            try simp only [Act.put, List.setIfInBounds_toArray, List.set_cons_zero, List.set_cons_succ]
            refine wpAnyH_take (i := 1) (oi := { dst := some 12, op := Op.move (Operand.tmp 3), type := 3, pos := "l06_jar.go:18", after := #[], guard := none }) (v := ?vd1) rfl (by kernel_rfl) (by kernel_rfl) (by kernel_rfl) (fun _ _ _ h => h) (Or.inl ⟨by rfl, ?hyd1⟩) (by assumption) ?restd1
            case hyd1 =>
              intro w hSw
              (try dsimp only at hSw)
              go_simp
              try with_reducible rfl
            try simp only [Act.put, List.setIfInBounds_toArray, List.set_cons_zero, List.set_cons_succ]
            refine wpAnyH_take (i := 2) (oi := { dst := some 13, op := Op.indexAddr 65 (Operand.tmp 11) (Operand.tmp 12), type := 0, pos := "l06_jar.go:18", after := #[{ on := 0, ground := Ground.data }, { on := 1, ground := Ground.data }], guard := none }) (v := ?vd2) rfl (by kernel_rfl) (by kernel_rfl) (by kernel_rfl) (fun _ _ _ h => h) (Or.inl ⟨by rfl, ?hyd2⟩) (by assumption) ?restd2
            case hyd2 =>
              intro w hSw
              (try dsimp only at hSw)
              go_simp
              try with_reducible rfl
            try simp only [Act.put, List.setIfInBounds_toArray, List.set_cons_zero, List.set_cons_succ]
            refine wpAnyH_take (i := 3) (oi := { dst := some 14, op := Op.load 59 (Operand.tmp 13), type := 59, pos := "l06_jar.go:18", after := #[{ on := 2, ground := Ground.data }], guard := none }) (v := ?vd3) rfl (by kernel_rfl) (by kernel_rfl) (by kernel_rfl) (fun _ _ _ h => h) (Or.inl ⟨by rfl, ?hyd3⟩) (by assumption) ?restd3
            case hyd3 =>
              intro w hSw
              (try dsimp only at hSw)
              go_simp
              try with_reducible rfl
            try simp only [Act.put, List.setIfInBounds_toArray, List.set_cons_zero, List.set_cons_succ]
            refine wpAnyH_ready (rs := [4]) (by kernel_rfl) (by simp) ?_
            refine AllReadyH.cons (o := { dst := some 15, op := Op.call { callee := Callee.value (Operand.func 48), args := #[Operand.tmp 14], argTypes := #[59] }, type := 4, pos := "l06_jar.go:18", after := #[{ on := 3, ground := Ground.data }], guard := none }) rfl (fun K hK => ?_) AllReadyH.nil
            go_simp
            (go_at_call 48; refine (KC.out _).mono ?_; rintro e w2 ⟨rfl, hb2⟩; have x0 : w2.cell? ⟨g, (m + 1) * 10, none⟩ = some (.string na) := ((bcell hb2).1 _ _ hgr).trans c0; have x1 : w2.cell? ⟨g, (m + 1) * 10 + 1, none⟩ = some (.string va) := ((bcell hb2).1 _ _ hgr).trans c1; have x2 : w2.cell? ⟨g, (m + 1) * 10 + 2, none⟩ = some (.string ho) := ((bcell hb2).1 _ _ hgr).trans c2; have x3 : w2.cell? ⟨g, (m + 1) * 10 + 3, none⟩ = some (.bool al) := ((bcell hb2).1 _ _ hgr).trans c3; have x4 : w2.cell? ⟨g, (m + 1) * 10 + 4, none⟩ = some (.string pa) := ((bcell hb2).1 _ _ hgr).trans c4; have x5 : w2.cell? ⟨g, (m + 1) * 10 + 5, none⟩ = some (.bool se) := ((bcell hb2).1 _ _ hgr).trans c5; have x6 : w2.cell? ⟨g, (m + 1) * 10 + 6, none⟩ = some (.int .i64 mo) := ((bcell hb2).1 _ _ hgr).trans c6; have x7 : w2.cell? ⟨g, (m + 1) * 10 + 7, none⟩ = some (.string pt) := ((bcell hb2).1 _ _ hgr).trans c7; have x8 : w2.cell? ⟨g, (m + 1) * 10 + 8, none⟩ = some (.int .i64 un) := ((bcell hb2).1 _ _ hgr).trans c8; have x9 : w2.cell? ⟨g, (m + 1) * 10 + 9, none⟩ = some (.int .i64 ma) := ((bcell hb2).1 _ _ hgr).trans c9; have xm : w2.cell? ⟨g, m * 10 + 9, none⟩ = some (.int .i64 pm) := ((bcell hb2).1 _ _ hgr).trans cm)
            try (go_wp2_with fail)
            refine hK.out _ _ ?_ (fun hH1 => ?_)
            · (try dsimp only)
              go_keep
            clear hK K hH0
            try simp only [Act.put, List.setIfInBounds_toArray, List.set_cons_zero, List.set_cons_succ]
            refine wpAnyH_take (i := 5) (oi := { dst := some 16, op := Op.unOp UnOp.not 4 (Operand.tmp 15), type := 4, pos := "l06_jar.go:18", after := #[{ on := 4, ground := Ground.data }], guard := none }) (v := ?vd5) rfl (by kernel_rfl) (by kernel_rfl) (by kernel_rfl) (fun _ _ _ h => h) (Or.inl ⟨by rfl, ?hyd5⟩) (by assumption) ?restd5
            case hyd5 =>
              intro w hSw
              (try dsimp only at hSw)
              go_simp
              try with_reducible rfl
            try simp only [Act.put, List.setIfInBounds_toArray, List.set_cons_zero, List.set_cons_succ]
            refine wpAnyH_take (i := 6) (oi := { dst := some 17, op := Op.move (Operand.tmp 16), type := 4, pos := "l06_jar.go:18", after := #[{ on := 5, ground := Ground.data }, { on := 4, ground := Ground.chain }], guard := none }) (v := ?vd6) rfl (by kernel_rfl) (by kernel_rfl) (by kernel_rfl) (fun _ _ _ h => h) (Or.inl ⟨by rfl, ?hyd6⟩) (by assumption) ?restd6
            case hyd6 =>
              intro w hSw
              (try dsimp only at hSw)
              go_simp
              try with_reducible rfl
            try simp only [Act.put, List.setIfInBounds_toArray, List.set_cons_zero, List.set_cons_succ]
            refine wpAnyH_take (i := 7) (oi := { dst := some 18, op := Op.move (Operand.tmp 3), type := 3, pos := "l06_jar.go:18", after := #[{ on := 6, ground := Ground.guard }], guard := some (6, false) }) (v := ?vd7) rfl (by kernel_rfl) (by kernel_rfl) (by kernel_rfl) (fun _ _ _ h => h) (Or.inl ⟨by rfl, ?hyd7⟩) (by assumption) ?restd7
            case hyd7 =>
              intro w hSw
              (try dsimp only at hSw)
              go_simp
              try with_reducible rfl
            try simp only [Act.put, List.setIfInBounds_toArray, List.set_cons_zero, List.set_cons_succ]
            refine wpAnyH_take (i := 8) (oi := { dst := some 19, op := Op.binOp BinOp.gtr 3 (Operand.tmp 18) (Operand.const (Value.int IntKind.i64 0)) 3, type := 4, pos := "l06_jar.go:18", after := #[{ on := 7, ground := Ground.data }, { on := 6, ground := Ground.guard }], guard := some (6, false) }) (v := ?vd8) rfl (by kernel_rfl) (by kernel_rfl) (by kernel_rfl) (fun _ _ _ h => h) (Or.inl ⟨by rfl, ?hyd8⟩) (by assumption) ?restd8
            case hyd8 =>
              intro w hSw
              (try dsimp only at hSw)
              go_simp
              try with_reducible rfl
            try simp only [Act.put, List.setIfInBounds_toArray, List.set_cons_zero, List.set_cons_succ]
            refine wpAnyH_take (i := 9) (oi := { dst := some 20, op := Op.move (Operand.tmp 19), type := 4, pos := "l06_jar.go:18", after := #[{ on := 8, ground := Ground.data }, { on := 6, ground := Ground.chain }, { on := 6, ground := Ground.guard }], guard := some (6, false) }) (v := ?vd9) rfl (by kernel_rfl) (by kernel_rfl) (by kernel_rfl) (fun _ _ _ h => h) (Or.inl ⟨by rfl, ?hyd9⟩) (by assumption) ?restd9
            case hyd9 =>
              intro w hSw
              (try dsimp only at hSw)
              go_simp
              try with_reducible rfl
            try simp only [Act.put, List.setIfInBounds_toArray, List.set_cons_zero, List.set_cons_succ]
            refine wpAnyH_take (i := 10) (oi := { dst := some 21, op := Op.move (Operand.tmp 0), type := 65, pos := "l06_jar.go:18", after := #[{ on := 9, ground := Ground.guard }], guard := some (9, true) }) (v := ?vd10) rfl (by kernel_rfl) (by kernel_rfl) (by kernel_rfl) (fun _ _ _ h => h) (Or.inl ⟨by rfl, ?hyd10⟩) (by assumption) ?restd10
            case hyd10 =>
              intro w hSw
              (try dsimp only at hSw)
              go_simp
              try with_reducible rfl
            try simp only [Act.put, List.setIfInBounds_toArray, List.set_cons_zero, List.set_cons_succ]
            refine wpAnyH_take (i := 11) (oi := { dst := some 22, op := Op.move (Operand.tmp 3), type := 3, pos := "l06_jar.go:18", after := #[{ on := 9, ground := Ground.guard }], guard := some (9, true) }) (v := ?vd11) rfl (by kernel_rfl) (by kernel_rfl) (by kernel_rfl) (fun _ _ _ h => h) (Or.inl ⟨by rfl, ?hyd11⟩) (by assumption) ?restd11
            case hyd11 =>
              intro w hSw
              (try dsimp only at hSw)
              go_simp
              try with_reducible rfl
            try simp only [Act.put, List.setIfInBounds_toArray, List.set_cons_zero, List.set_cons_succ]
            refine wpAnyH_take (i := 12) (oi := { dst := some 23, op := Op.binOp BinOp.sub 3 (Operand.tmp 22) (Operand.const (Value.int IntKind.i64 1)) 3, type := 3, pos := "l06_jar.go:18", after := #[{ on := 11, ground := Ground.data }, { on := 9, ground := Ground.guard }], guard := some (9, true) }) (v := ?vd12) rfl (by kernel_rfl) (by kernel_rfl) (by kernel_rfl) (fun _ _ _ h => h) (Or.inl ⟨by rfl, ?hyd12⟩) (by assumption) ?restd12
            case hyd12 =>
              intro w hSw
              (try dsimp only at hSw)
              go_simp
              try with_reducible rfl
            try simp only [Act.put, List.setIfInBounds_toArray, List.set_cons_zero, List.set_cons_succ]
            refine wpAnyH_take (i := 13) (oi := { dst := some 24, op := Op.indexAddr 65 (Operand.tmp 21) (Operand.tmp 23), type := 0, pos := "l06_jar.go:18", after := #[{ on := 10, ground := Ground.data }, { on := 12, ground := Ground.data }, { on := 9, ground := Ground.guard }], guard := some (9, true) }) (v := ?vd13) rfl (by kernel_rfl) (by kernel_rfl) (by kernel_rfl) (fun _ _ _ h => h) (Or.inl ⟨by rfl, ?hyd13⟩) (by assumption) ?restd13
            case hyd13 =>
              intro w hSw
              (try dsimp only at hSw)
              go_simp
              try with_reducible rfl
            try simp only [Act.put, List.setIfInBounds_toArray, List.set_cons_zero, List.set_cons_succ]
            refine wpAnyH_take (i := 14) (oi := { dst := some 25, op := Op.fieldAddr 59 (Operand.tmp 24) 9, type := 0, pos := "l06_jar.go:18", after := #[{ on := 13, ground := Ground.data }, { on := 9, ground := Ground.guard }], guard := some (9, true) }) (v := ?vd14) rfl (by kernel_rfl) (by kernel_rfl) (by kernel_rfl) (fun _ _ _ h => h) (Or.inl ⟨by rfl, ?hyd14⟩) (by assumption) ?restd14
            case hyd14 =>
              intro w hSw
              (try dsimp only at hSw)
              go_simp
              try with_reducible rfl
            try simp only [Act.put, List.setIfInBounds_toArray, List.set_cons_zero, List.set_cons_succ]
            refine wpAnyH_take (i := 15) (oi := { dst := some 26, op := Op.load 2 (Operand.tmp 25), type := 2, pos := "l06_jar.go:18", after := #[{ on := 14, ground := Ground.data }, { on := 9, ground := Ground.guard }], guard := some (9, true) }) (v := ?vd15) rfl (by kernel_rfl) (by kernel_rfl) (by kernel_rfl) (fun _ _ _ h => h) (Or.inl ⟨by rfl, ?hyd15⟩) (by assumption) ?restd15
            case hyd15 =>
              intro w hSw
              (try dsimp only at hSw)
              go_simp
              try with_reducible rfl
            try simp only [Act.put, List.setIfInBounds_toArray, List.set_cons_zero, List.set_cons_succ]
            refine wpAnyH_take (i := 16) (oi := { dst := some 27, op := Op.move (Operand.tmp 0), type := 65, pos := "l06_jar.go:18", after := #[{ on := 9, ground := Ground.guard }], guard := some (9, true) }) (v := ?vd16) rfl (by kernel_rfl) (by kernel_rfl) (by kernel_rfl) (fun _ _ _ h => h) (Or.inl ⟨by rfl, ?hyd16⟩) (by assumption) ?restd16
            case hyd16 =>
              intro w hSw
              (try dsimp only at hSw)
              go_simp
              try with_reducible rfl
            try simp only [Act.put, List.setIfInBounds_toArray, List.set_cons_zero, List.set_cons_succ]
            refine wpAnyH_take (i := 17) (oi := { dst := some 28, op := Op.move (Operand.tmp 3), type := 3, pos := "l06_jar.go:18", after := #[{ on := 9, ground := Ground.guard }], guard := some (9, true) }) (v := ?vd17) rfl (by kernel_rfl) (by kernel_rfl) (by kernel_rfl) (fun _ _ _ h => h) (Or.inl ⟨by rfl, ?hyd17⟩) (by assumption) ?restd17
            case hyd17 =>
              intro w hSw
              (try dsimp only at hSw)
              go_simp
              try with_reducible rfl
            try simp only [Act.put, List.setIfInBounds_toArray, List.set_cons_zero, List.set_cons_succ]
            refine wpAnyH_take (i := 18) (oi := { dst := some 29, op := Op.indexAddr 65 (Operand.tmp 27) (Operand.tmp 28), type := 0, pos := "l06_jar.go:18", after := #[{ on := 16, ground := Ground.data }, { on := 17, ground := Ground.data }, { on := 9, ground := Ground.guard }], guard := some (9, true) }) (v := ?vd18) rfl (by kernel_rfl) (by kernel_rfl) (by kernel_rfl) (fun _ _ _ h => h) (Or.inl ⟨by rfl, ?hyd18⟩) (by assumption) ?restd18
            case hyd18 =>
              intro w hSw
              (try dsimp only at hSw)
              go_simp
              try with_reducible rfl
            try simp only [Act.put, List.setIfInBounds_toArray, List.set_cons_zero, List.set_cons_succ]
            refine wpAnyH_take (i := 19) (oi := { dst := some 30, op := Op.fieldAddr 59 (Operand.tmp 29) 9, type := 0, pos := "l06_jar.go:18", after := #[{ on := 18, ground := Ground.data }, { on := 9, ground := Ground.guard }], guard := some (9, true) }) (v := ?vd19) rfl (by kernel_rfl) (by kernel_rfl) (by kernel_rfl) (fun _ _ _ h => h) (Or.inl ⟨by rfl, ?hyd19⟩) (by assumption) ?restd19
            case hyd19 =>
              intro w hSw
              (try dsimp only at hSw)
              go_simp
              try with_reducible rfl
            try simp only [Act.put, List.setIfInBounds_toArray, List.set_cons_zero, List.set_cons_succ]
            refine wpAnyH_take (i := 20) (oi := { dst := some 31, op := Op.load 2 (Operand.tmp 30), type := 2, pos := "l06_jar.go:18", after := #[{ on := 19, ground := Ground.data }, { on := 9, ground := Ground.guard }], guard := some (9, true) }) (v := ?vd20) rfl (by kernel_rfl) (by kernel_rfl) (by kernel_rfl) (fun _ _ _ h => h) (Or.inl ⟨by rfl, ?hyd20⟩) (by assumption) ?restd20
            case hyd20 =>
              intro w hSw
              (try dsimp only at hSw)
              go_simp
              try with_reducible rfl
            try simp only [Act.put, List.setIfInBounds_toArray, List.set_cons_zero, List.set_cons_succ]
            refine wpAnyH_take (i := 21) (oi := { dst := some 32, op := Op.binOp BinOp.geq 2 (Operand.tmp 26) (Operand.tmp 31) 2, type := 4, pos := "l06_jar.go:18", after := #[{ on := 15, ground := Ground.data }, { on := 20, ground := Ground.data }, { on := 9, ground := Ground.guard }], guard := some (9, true) }) (v := ?vd21) rfl (by kernel_rfl) (by kernel_rfl) (by kernel_rfl) (fun _ _ _ h => h) (Or.inl ⟨by rfl, ?hyd21⟩) (by assumption) ?restd21
            case hyd21 =>
              intro w hSw
              (try dsimp only at hSw)
              go_simp
              try with_reducible rfl
            try simp only [Act.put, List.setIfInBounds_toArray, List.set_cons_zero, List.set_cons_succ]
            refine wpAnyH_take (i := 22) (oi := { dst := some 33, op := Op.pick (Operand.tmp 20) (Operand.tmp 32) (Operand.const (Value.bool false)), type := 4, pos := "l06_jar.go:18", after := #[{ on := 9, ground := Ground.data }, { on := 21, ground := Ground.data }, { on := 6, ground := Ground.guard }], guard := some (6, false) }) (v := ?vd22) rfl (by kernel_rfl) (by kernel_rfl) (by kernel_rfl) (fun _ _ _ h => h) (Or.inl ⟨by rfl, ?hyd22⟩) (by assumption) ?restd22
            case hyd22 =>
              intro w hSw
              (try dsimp only at hSw)
              go_simp
              try with_reducible rfl
            try simp only [Act.put, List.setIfInBounds_toArray, List.set_cons_zero, List.set_cons_succ]
            refine wpAnyH_take (i := 23) (oi := { dst := some 34, op := Op.pick (Operand.tmp 17) (Operand.const (Value.bool true)) (Operand.tmp 33), type := 4, pos := "l06_jar.go:18", after := #[{ on := 6, ground := Ground.data }, { on := 22, ground := Ground.data }], guard := none }) (v := ?vd23) rfl (by kernel_rfl) (by kernel_rfl) (by kernel_rfl) (fun _ _ _ h => h) (Or.inl ⟨by rfl, ?hyd23⟩) (by assumption) ?restd23
            case hyd23 =>
              intro w hSw
              (try dsimp only at hSw)
              go_simp
              try with_reducible rfl
            try simp only [Act.put, List.setIfInBounds_toArray, List.set_cons_zero, List.set_cons_succ]
            refine wpAnyH_done (by kernel_rfl) ?_ _
            go_wp2
            go_ret
            exact ⟨ret_bool HQ.out.symm, (HB.out.trans (Below.drew (Below.refl _ _))).trans (hb2.mono HB.out.size)⟩
    · have HQ : Hid (R = decide ((L.length : Int) ≤ 12)) := HY.out (fun i hi => HR.out i (by omega))
      go_wp2
      go_ret
      exact ⟨ret_bool HQ.out.symm, HB.out⟩
end Go.Proofs.YtfoekelhcmlagaaDoor

/- Where an owned row lies. -/
namespace Go.Proofs.YtfoekelhcmlagaaDoor
open Go.RowKit
theorem own_base {w : World} {B n sz : Nat} {e : TypeId} {v : Value} {xs : List Value} (h : w.ownsRow B e sz v n xs) : ∀ j, v.ownBlock = some j → B ≤ j := by
  intro j hj
  obtain ⟨_, ⟨rfl, _⟩ | ⟨g, cap, cur, rfl, hB, _⟩⟩ := h
  · cases hj
  · have : g = j := Option.some.inj hj
    omega
end Go.Proofs.YtfoekelhcmlagaaDoor
