/- 3 of this claim's texts, one behind the other. -/
import Derived.Test.YtimmoclemcnhnaaDoorPart4
import Derived.Test.YtimmoclemcnhnaaDoorPart2
import Derived.Deep.RegionHeld3
import Derived.Deep.AppendLies
import Derived.Test.YtimmoclemcnhnaaDoorPart1
/- The walk of the specification's l06For. Written by specfor.py. -/
namespace Go.Proofs.YtimmoclemcnhnaaDoor
open Go.RowKit

def pairOf (c : Ck) : ByteArray × ByteArray := (c.na, c.va)
/-- those of this length among the first i that go along, behind the longer ones -/
def outTo (L G : List Ck) (p : Ck → Bool) (n i : Nat) : List (ByteArray × ByteArray) := (hiL G (n + 1) 40 ++ (L.take i).filter (fun c => (c.pa.size == n) && p c)).map pairOf
theorem hiL_step (M : List Ck) (k : Nat) (hk : 0 < k) : ∀ n, k ≤ n → hiL M k n = hiL M (k + 1) n ++ M.filter (fun c => c.pa.size == k)
  | 0, h => absurd h (by omega)
  | n + 1, h => by
    by_cases e : k = n + 1
    · subst e
      rw [hiL, if_pos (Nat.le_refl _), hiL, if_neg (by omega), hiL_nil M _ _ (by omega), List.append_nil, List.nil_append]
    · rw [hiL, if_pos h, hiL, if_pos (by omega), hiL_step M k hk n (by omega), List.append_assoc]
theorem outTo_yes {L G : List Ck} {p : Ck → Bool} {n i : Nat} (hi : i < L.length) (h1 : (atC L i).pa.size = n) (h2 : p (atC L i) = true) : outTo L G p n (i + 1) = outTo L G p n i ++ [((atC L i).na, (atC L i).va)] := by
  have e : atC L i = L[i] := by simp [atC, hi]
  unfold outTo
  rw [← List.take_append_getElem hi, List.filter_append, ← e, List.filter_cons_of_pos (by rw [h1, h2]; simp), List.filter_nil, ← List.append_assoc, List.map_append]; rfl
theorem outTo_no {L G : List Ck} {p : Ck → Bool} {n i : Nat} (hi : i < L.length) (h : ((atC L i).pa.size == n && p (atC L i)) = false) : outTo L G p n (i + 1) = outTo L G p n i := by
  have e : atC L i = L[i] := by simp [atC, hi]
  unfold outTo
  rw [← List.take_append_getElem hi, List.filter_append, ← e, List.filter_cons_of_neg (by rw [h]; decide), List.filter_nil, List.append_nil]
theorem outTo_turn {L : List Ck} {p : Ck → Bool} {n : Nat} (h0 : 0 < n) (h40 : n ≤ 40) : outTo L (L.filter p) p n L.length = outTo L (L.filter p) p (n - 1) 0 := by
  unfold outTo
  rw [List.take_length, List.take_zero, List.filter_nil, List.append_nil, show n - 1 + 1 = n by omega, hiL_step _ n h0 40 h40, List.filter_filter]
theorem hiL_all (M : List Ck) (n : Nat) : hiL M 1 n = byLen M n := by
  have := byLen_split M 1 (by omega) n (by omega)
  rw [this]; show _ = _ ++ []; rw [List.append_nil]
theorem outTo_len (L : List Ck) (p : Ck → Bool) (n i : Nat) : (outTo L (L.filter p) p n i).length ≤ L.length * 40 + L.length := by
  unfold outTo
  rw [List.length_map, List.length_append]
  have h1 : (hiL (L.filter p) (n + 1) 40).length ≤ L.length * 40 := by
    have hb : ∀ m, (hiL (L.filter p) (n + 1) m).length ≤ (L.filter p).length * m := by
      intro m
      induction m with
      | zero => exact Nat.zero_le _
      | succ m ih =>
        rw [hiL]
        split
        · rw [List.length_append, Nat.mul_succ]
          have := List.length_filter_le (fun c => c.pa.size == m + 1) (L.filter p)
          omega
        · exact Nat.zero_le _
    refine Nat.le_trans (hb 40) (Nat.mul_le_mul_right 40 (List.length_filter_le _ _))
  have h2 : ((L.take i).filter (fun c => (c.pa.size == n) && p c)).length ≤ L.length := Nat.le_trans (List.length_filter_le _ _) (by rw [List.length_take]; omega)
  omega
theorem bcell7 {B0 : Nat} {W w' : World} (b o : Nat) (hb : b < B0) (h : Below B0 W w') : w'.cell? ⟨b, o, none⟩ = W.cell? ⟨b, o, none⟩ := h.cell (p := ⟨b, o, none⟩) hb
set_option maxRecDepth 10000 in
set_option maxHeartbeats 16000000 in
theorem specFor_any (v : Value) (L : List Ck) (sc uh : ByteArray) (po : Int) (up part : ByteArray) (wide near : Bool) (now : Int) (B : Nat) (w : World) (hs : SliceC w B v L) (hn : L.length ≤ 12) (h1 : uh.size ≤ 1048576) (hz : ∀ i, i < L.length → (atC L i).ho.size ≤ 1048576 ∧ 0 < (atC L i).pa.size ∧ (atC L i).pa.size ≤ 1048576) :
    Calls Tryd.prog 75 #[v, .agg #[.string sc, .string uh, .int .i64 po, .string up], .string part, .bool wide, .bool near, .int .i64 now] w fun e w' => ∃ v', e = .returned v' ∧ SliceP w' w.heap.size v' ((byLen (L.filter (fun c => goS c sc uh up part wide near now)) 40).map pairOf) ∧ Below w.heap.size w w' := by
  have KG : Hid (∀ j, j < L.length → ∀ W, Calls Tryd.prog 122 #[ckV (atC L j), .agg #[.string sc, .string uh, .int .i64 po, .string up], .string part, .bool wide, .bool near, .int .i64 now] W fun e w' => e = .returned (.bool (goS (atC L j) sc uh up part wide near now)) ∧ Below W.heap.size W w') := fun j hj W => specGoes_any (atC L j) sc uh po up part wide near now W h1 (hz j hj).1 (hz j hj).2.1 (hz j hj).2.2
  obtain ⟨i0, hi, hy0, hy1, hy2⟩ := info_parts infoPairS
  obtain ⟨⟨q, cap, rfl, hg⟩, -⟩ := hs
  have HG : Hid (0 < L.length → ∃ g, q = some ⟨g, 0, none⟩ ∧ g < w.heap.size ∧ ∀ j, j < L.length → ∀ o, o < 10 → w.cell? ⟨g, j * 10 + o, none⟩ = some (ckC (atC L j) o)) := fun h0 => by
    obtain ⟨g, e, -, hgw, hc⟩ := hg h0
    exact ⟨g, e, hgw, fun j hj o ho => (hc j hj o ho).1⟩
  clear hg hz h1
  have HP : Hid (∀ j, goS (atC L j) sc uh up part wide near now = (fun c => goS c sc uh up part wide near now) (atC L j)) := fun _ => rfl
  generalize hpd : (fun c => goS c sc uh up part wide near now) = pd at *
  have HY : Hid (∀ n i, i < L.length → (atC L i).pa.size = n → pd (atC L i) = true → ∀ (v : Value) (B : Nat) (W : World), W.ownsRow B 99 2 v ((outTo L (L.filter pd) pd n i).length + 1) (pairCells (outTo L (L.filter pd) pd n i) ++ [.string (atC L i).na, .string (atC L i).va]) → W.ownsRow B 99 2 v (outTo L (L.filter pd) pd n (i + 1)).length (pairCells (outTo L (L.filter pd) pd n (i + 1)))) := fun n i hi a b v B W h => by
    rw [outTo_yes hi a b, ← pairCells_snoc, List.length_append]; exact h
  have HN : Hid (∀ n i, i < L.length → ((atC L i).pa.size == n && pd (atC L i)) = false → outTo L (L.filter pd) pd n (i + 1) = outTo L (L.filter pd) pd n i) := fun n i hi a => outTo_no hi a
  have HT : Hid (∀ n, 0 < n → n ≤ 40 → outTo L (L.filter pd) pd n L.length = outTo L (L.filter pd) pd (n - 1) 0) := fun n a b => outTo_turn a b
  have HLen : Hid (∀ n i, (outTo L (L.filter pd) pd n i).length ≤ L.length * 40 + L.length) := fun n i => outTo_len L pd n i
  have HS0 : Hid (outTo L (L.filter pd) pd 40 0 = []) := by
    show _ = _
    unfold outTo
    rw [hiL_nil _ _ _ (by omega), List.take_zero]; rfl
  have HE : Hid ((byLen (L.filter pd) 40).map pairOf = outTo L (L.filter pd) pd 0 0) := by
    show _ = _
    unfold outTo
    rw [List.take_zero, List.filter_nil, List.append_nil, hiL_all]
  clear hpd
  generalize (byLen (L.filter pd) 40).map pairOf = Z at *
  generalize hF : outTo L (L.filter pd) pd = F at *
  clear hF
  obtain ⟨WU, hW⟩ : ∃ WU, WU = w.alloc (.cells #[.string sc, .string uh, .int .i64 po, .string up] 45) := ⟨_, rfl⟩
  have hWU : Hid (WU = w.alloc (.cells #[.string sc, .string uh, .int .i64 po, .string up] 45)) := hW
  have BU : Hid (Below w.heap.size w WU) := by
    show Below _ _ _
    rw [hW]; exact (Below.refl _ _).alloc (Nat.le_refl _) _
  have s0 : WU.cell? ⟨w.heap.size, 0, none⟩ = some (.string sc) := by rw [hW]; simp
  have s1 : WU.cell? ⟨w.heap.size, 1, none⟩ = some (.string uh) := by rw [hW]; simp
  have s2 : WU.cell? ⟨w.heap.size, 2, none⟩ = some (.int .i64 po) := by rw [hW]; simp
  have s3 : WU.cell? ⟨w.heap.size, 3, none⟩ = some (.string up) := by rw [hW]; simp
  have zU : w.heap.size < WU.heap.size := by rw [hW]; simp
  have HU : Hid (WU.cell? ⟨w.heap.size, 0, none⟩ = some (.string sc) ∧ WU.cell? ⟨w.heap.size, 1, none⟩ = some (.string uh) ∧ WU.cell? ⟨w.heap.size, 2, none⟩ = some (.int .i64 po) ∧ WU.cell? ⟨w.heap.size, 3, none⟩ = some (.string up)) := ⟨s0, s1, s2, s3⟩
  clear hW s0 s1 s2 s3
  generalize hB0 : WU.heap.size = B0 at *
  have OU : Hid ((WU.alloc (.cells #[] 99)).ownsRow B0 99 2 (.slice (some ⟨B0, 0, none⟩) 0 0) 0 (pairCells [])) := by
    show World.ownsRow _ _ _ _ _ _ _
    rw [← hB0]
    exact World.ownsRow_made WU #[] 0 (Nat.le_refl _) (Nat.zero_le _) rfl
  have AU : Hid (Below B0 WU (WU.alloc (.cells #[] 99))) := (Below.refl _ _).alloc (by omega) _
  go_enter Tryd.func75, Tryd.ntmps75
  go_upto_region 1 with fail
  rw [← hWU.out]
  clear hWU
  go_wp2
  go_loopw [13, 14] (fun a i wr => ∃ n : Nat, n ≤ 40 ∧ i = .int .i64 n ∧ Hid (wr.ownsRow B0 99 2 a (F n 0).length (pairCells (F n 0))) ∧ Hid (Below B0 WU wr)) (fun _ i _ => (intOf i).toNat)
  case atStart => exact ⟨40, Nat.le_refl _, rfl, by show World.ownsRow _ _ _ _ _ _ _; rw [HS0.out]; exact OU.out, AU⟩
  case round =>
    obtain ⟨n, hn40, rfl, HO, HB⟩ := hrel
    by_cases h0 : 0 < n
    · have n0 : (0 : Int) < n := by omega
      have HT1 : Hid (F n L.length = F (n - 1) 0) := HT.out n h0 hn40
      go_wp2
      go_loopw [13, 15] (fun a i wr => ∃ k : Nat, k ≤ L.length ∧ i = .int .i64 k ∧ Hid (wr.ownsRow B0 99 2 a (F n k).length (pairCells (F n k))) ∧ Hid (Below B0 WU wr)) (fun _ i _ => L.length - (intOf i).toNat)
      case atStart => exact ⟨0, Nat.zero_le _, rfl, HO, HB⟩
      case round =>
        obtain ⟨k, hk, rfl, HO, HB⟩ := hrel
        have hfl := HLen.out n k
        have hwB : w.heap.size < B0 := by omega
        have hbr : B0 ≤ wr.heap.size := by rw [← hB0]; exact HB.out.size
        by_cases hlt : k < L.length
        · obtain ⟨g, rfl, hgw, hc⟩ := HG.out (by omega)
          have hg0 : g < B0 := by omega
          have hgr : g < wr.heap.size := by omega
          have hur : w.heap.size < wr.heap.size := by omega
          have hcU : ∀ o, o < 10 → WU.cell? ⟨g, k * 10 + o, none⟩ = some (ckC (atC L k) o) := fun o ho => ((bcell BU.out).1 _ _ hgw).trans (hc k hlt o ho)
          have hcw : ∀ o, o < 10 → wr.cell? ⟨g, k * 10 + o, none⟩ = some (ckC (atC L k) o) := fun o ho => (bcell7 _ _ hg0 HB.out).trans (hcU o ho)
          have c0 : wr.cell? ⟨g, k * 10, none⟩ = some (.string (atC L k).na) := hcw 0 (by omega)
          have c1 : wr.cell? ⟨g, k * 10 + 1, none⟩ = some (.string (atC L k).va) := hcw 1 (by omega)
          have c2 : wr.cell? ⟨g, k * 10 + 2, none⟩ = some (.string (atC L k).ho) := hcw 2 (by omega)
          have c3 : wr.cell? ⟨g, k * 10 + 3, none⟩ = some (.bool (atC L k).al) := hcw 3 (by omega)
          have c4 : wr.cell? ⟨g, k * 10 + 4, none⟩ = some (.string (atC L k).pa) := hcw 4 (by omega)
          have c5 : wr.cell? ⟨g, k * 10 + 5, none⟩ = some (.bool (atC L k).se) := hcw 5 (by omega)
          have c6 : wr.cell? ⟨g, k * 10 + 6, none⟩ = some (.int .i64 (atC L k).mo) := hcw 6 (by omega)
          have c7 : wr.cell? ⟨g, k * 10 + 7, none⟩ = some (.string (atC L k).pt) := hcw 7 (by omega)
          have c8 : wr.cell? ⟨g, k * 10 + 8, none⟩ = some (.int .i64 (atC L k).un) := hcw 8 (by omega)
          have c9 : wr.cell? ⟨g, k * 10 + 9, none⟩ = some (.int .i64 (atC L k).ma) := hcw 9 (by omega)
          have e00 : WU.cell? ⟨g, k * 10, none⟩ = some (.string (atC L k).na) := hcU 0 (by omega)
          have e01 : WU.cell? ⟨g, k * 10 + 1, none⟩ = some (.string (atC L k).va) := hcU 1 (by omega)
          have u0 : wr.cell? ⟨w.heap.size, 0, none⟩ = some (.string sc) := (bcell7 _ _ hwB HB.out).trans HU.out.1
          have u1 : wr.cell? ⟨w.heap.size, 1, none⟩ = some (.string uh) := (bcell7 _ _ hwB HB.out).trans HU.out.2.1
          have u2 : wr.cell? ⟨w.heap.size, 2, none⟩ = some (.int .i64 po) := (bcell7 _ _ hwB HB.out).trans HU.out.2.2.1
          have u3 : wr.cell? ⟨w.heap.size, 3, none⟩ = some (.string up) := (bcell7 _ _ hwB HB.out).trans HU.out.2.2.2
          have KG1 := KG.out k hlt
          have HY1 := HY.out n k hlt
          have HN1 := HN.out n k hlt
          rw [HP.out k] at KG1
          have k0 : (0 : Int) ≤ k := by omega
          have k1 : (k : Int) < L.length := by omega
          clear hc hcU hcw
          generalize pd (atC L k) = pk at *
          generalize atC L k = y at *
          obtain ⟨na, va, ho, al, pa, se, mo, pt, un, ma⟩ := y
          unfold ckV at KG1
          dsimp only at *
          by_cases hsz : pa.size = n
          · have qs : ((pa.size : Int) == (n : Int)) = true := by rw [beq_iff_eq]; omega
            have KG1 : Hid (∀ W, Calls Tryd.prog 122 #[.agg #[.string na, .string va, .string ho, .bool al, .string pa, .bool se, .int .i64 mo, .string pt, .int .i64 un, .int .i64 ma], .agg #[.string sc, .string uh, .int .i64 po, .string up], .string part, .bool wide, .bool near, .int .i64 now] W fun e w' => e = .returned (.bool pk) ∧ Below W.heap.size W w') := KG1
            go_upto_region 8 with fail
            refine wp_region_held_drew (S := (fun w' => w'.cell? ⟨g, k * 10, none⟩ = some (.string na) ∧ w'.cell? ⟨g, k * 10 + 1, none⟩ = some (.string va) ∧ w'.cell? ⟨g, k * 10 + 2, none⟩ = some (.string ho) ∧ w'.cell? ⟨g, k * 10 + 3, none⟩ = some (.bool al) ∧ w'.cell? ⟨g, k * 10 + 4, none⟩ = some (.string pa) ∧ w'.cell? ⟨g, k * 10 + 5, none⟩ = some (.bool se) ∧ w'.cell? ⟨g, k * 10 + 6, none⟩ = some (.int .i64 mo) ∧ w'.cell? ⟨g, k * 10 + 7, none⟩ = some (.string pt) ∧ w'.cell? ⟨g, k * 10 + 8, none⟩ = some (.int .i64 un) ∧ w'.cell? ⟨g, k * 10 + 9, none⟩ = some (.int .i64 ma) ∧ w'.cell? ⟨w.heap.size, 0, none⟩ = some (.string sc) ∧ w'.cell? ⟨w.heap.size, 1, none⟩ = some (.string uh) ∧ w'.cell? ⟨w.heap.size, 2, none⟩ = some (.int .i64 po) ∧ w'.cell? ⟨w.heap.size, 3, none⟩ = some (.string up))) (by kernel_rfl) ?_ (fun hH0 => ?_)
            · (try dsimp only)
              go_keep
            refine wpAnyH_take (i := 0) (oi := { dst := some 27, op := Op.move (Operand.tmp 0), type := 43, pos := "l06_jar.go:132", after := #[], guard := none }) (v := ?vd0) rfl (by kernel_rfl) (by kernel_rfl) (by kernel_rfl) (fun _ _ _ h => h) (Or.inl ⟨by rfl, ?hyd0⟩) (by assumption) ?restd0
            case hyd0 =>
              intro w hSw
              (try dsimp only at hSw)
              go_simp
              try with_reducible rfl
            try simp only [Act.put, List.setIfInBounds_toArray, List.set_cons_zero, List.set_cons_succ]
            refine wpAnyH_take (i := 1) (oi := { dst := some 28, op := Op.move (Operand.tmp 15), type := 3, pos := "l06_jar.go:132", after := #[], guard := none }) (v := ?vd1) rfl (by kernel_rfl) (by kernel_rfl) (by kernel_rfl) (fun _ _ _ h => h) (Or.inl ⟨by rfl, ?hyd1⟩) (by assumption) ?restd1
            case hyd1 =>
              intro w hSw
              (try dsimp only at hSw)
              go_simp
              try with_reducible rfl
            try simp only [Act.put, List.setIfInBounds_toArray, List.set_cons_zero, List.set_cons_succ]
            refine wpAnyH_take (i := 2) (oi := { dst := some 29, op := Op.indexAddr 43 (Operand.tmp 27) (Operand.tmp 28), type := 0, pos := "l06_jar.go:132", after := #[{ on := 0, ground := Ground.data }, { on := 1, ground := Ground.data }], guard := none }) (v := ?vd2) rfl (by kernel_rfl) (by kernel_rfl) (by kernel_rfl) (fun _ _ _ h => h) (Or.inl ⟨by rfl, ?hyd2⟩) (by assumption) ?restd2
            case hyd2 =>
              intro w hSw
              (try dsimp only at hSw)
              go_simp
              try with_reducible rfl
            try simp only [Act.put, List.setIfInBounds_toArray, List.set_cons_zero, List.set_cons_succ]
            refine wpAnyH_take (i := 3) (oi := { dst := some 30, op := Op.fieldAddr 90 (Operand.tmp 29) 4, type := 0, pos := "l06_jar.go:132", after := #[{ on := 2, ground := Ground.data }], guard := none }) (v := ?vd3) rfl (by kernel_rfl) (by kernel_rfl) (by kernel_rfl) (fun _ _ _ h => h) (Or.inl ⟨by rfl, ?hyd3⟩) (by assumption) ?restd3
            case hyd3 =>
              intro w hSw
              (try dsimp only at hSw)
              go_simp
              try with_reducible rfl
            try simp only [Act.put, List.setIfInBounds_toArray, List.set_cons_zero, List.set_cons_succ]
            refine wpAnyH_take (i := 4) (oi := { dst := some 31, op := Op.load 9 (Operand.tmp 30), type := 9, pos := "l06_jar.go:132", after := #[{ on := 3, ground := Ground.data }], guard := none }) (v := ?vd4) rfl (by kernel_rfl) (by kernel_rfl) (by kernel_rfl) (fun _ _ _ h => h) (Or.inl ⟨by rfl, ?hyd4⟩) (by assumption) ?restd4
            case hyd4 =>
              intro w hSw
              (try dsimp only at hSw)
              go_simp
              try with_reducible rfl
            try simp only [Act.put, List.setIfInBounds_toArray, List.set_cons_zero, List.set_cons_succ]
            refine wpAnyH_take (i := 5) (oi := { dst := some 32, op := Op.call { callee := Callee.builtin Builtin.len, args := #[Operand.tmp 31], argTypes := #[9] }, type := 3, pos := "l06_jar.go:132", after := #[{ on := 4, ground := Ground.data }], guard := none }) (v := ?vd5) rfl (by kernel_rfl) (by kernel_rfl) (by kernel_rfl) (fun _ _ _ h => h) (Or.inl ⟨by rfl, ?hyd5⟩) (by assumption) ?restd5
            case hyd5 =>
              intro w hSw
              (try dsimp only at hSw)
              go_simp
              try with_reducible rfl
            try simp only [Act.put, List.setIfInBounds_toArray, List.set_cons_zero, List.set_cons_succ]
            refine wpAnyH_take (i := 6) (oi := { dst := some 33, op := Op.move (Operand.tmp 14), type := 3, pos := "l06_jar.go:132", after := #[], guard := none }) (v := ?vd6) rfl (by kernel_rfl) (by kernel_rfl) (by kernel_rfl) (fun _ _ _ h => h) (Or.inl ⟨by rfl, ?hyd6⟩) (by assumption) ?restd6
            case hyd6 =>
              intro w hSw
              (try dsimp only at hSw)
              go_simp
              try with_reducible rfl
            try simp only [Act.put, List.setIfInBounds_toArray, List.set_cons_zero, List.set_cons_succ]
            refine wpAnyH_take (i := 7) (oi := { dst := some 34, op := Op.binOp BinOp.eql 3 (Operand.tmp 32) (Operand.tmp 33) 3, type := 4, pos := "l06_jar.go:132", after := #[{ on := 5, ground := Ground.data }, { on := 6, ground := Ground.data }], guard := none }) (v := ?vd7) rfl (by kernel_rfl) (by kernel_rfl) (by kernel_rfl) (fun _ _ _ h => h) (Or.inl ⟨by rfl, ?hyd7⟩) (by assumption) ?restd7
            case hyd7 =>
              intro w hSw
              (try dsimp only at hSw)
              go_simp
              try with_reducible rfl
            try simp only [Act.put, List.setIfInBounds_toArray, List.set_cons_zero, List.set_cons_succ]
            refine wpAnyH_take (i := 8) (oi := { dst := some 35, op := Op.move (Operand.tmp 34), type := 4, pos := "l06_jar.go:132", after := #[{ on := 7, ground := Ground.data }], guard := none }) (v := ?vd8) rfl (by kernel_rfl) (by kernel_rfl) (by kernel_rfl) (fun _ _ _ h => h) (Or.inl ⟨by rfl, ?hyd8⟩) (by assumption) ?restd8
            case hyd8 =>
              intro w hSw
              (try dsimp only at hSw)
              go_simp
              try with_reducible rfl
            try simp only [Act.put, List.setIfInBounds_toArray, List.set_cons_zero, List.set_cons_succ]
            refine wpAnyH_take (i := 9) (oi := { dst := some 36, op := Op.move (Operand.tmp 0), type := 43, pos := "l06_jar.go:132", after := #[{ on := 8, ground := Ground.guard }], guard := some (8, true) }) (v := ?vd9) rfl (by kernel_rfl) (by kernel_rfl) (by kernel_rfl) (fun _ _ _ h => h) (Or.inl ⟨by rfl, ?hyd9⟩) (by assumption) ?restd9
            case hyd9 =>
              intro w hSw
              (try dsimp only at hSw)
              go_simp
              try with_reducible rfl
            try simp only [Act.put, List.setIfInBounds_toArray, List.set_cons_zero, List.set_cons_succ]
            refine wpAnyH_take (i := 10) (oi := { dst := some 37, op := Op.move (Operand.tmp 15), type := 3, pos := "l06_jar.go:132", after := #[{ on := 8, ground := Ground.guard }], guard := some (8, true) }) (v := ?vd10) rfl (by kernel_rfl) (by kernel_rfl) (by kernel_rfl) (fun _ _ _ h => h) (Or.inl ⟨by rfl, ?hyd10⟩) (by assumption) ?restd10
            case hyd10 =>
              intro w hSw
              (try dsimp only at hSw)
              go_simp
              try with_reducible rfl
            try simp only [Act.put, List.setIfInBounds_toArray, List.set_cons_zero, List.set_cons_succ]
            refine wpAnyH_take (i := 11) (oi := { dst := some 38, op := Op.indexAddr 43 (Operand.tmp 36) (Operand.tmp 37), type := 0, pos := "l06_jar.go:132", after := #[{ on := 9, ground := Ground.data }, { on := 10, ground := Ground.data }, { on := 8, ground := Ground.guard }], guard := some (8, true) }) (v := ?vd11) rfl (by kernel_rfl) (by kernel_rfl) (by kernel_rfl) (fun _ _ _ h => h) (Or.inl ⟨by rfl, ?hyd11⟩) (by assumption) ?restd11
            case hyd11 =>
              intro w hSw
              (try dsimp only at hSw)
              go_simp
              try with_reducible rfl
            try simp only [Act.put, List.setIfInBounds_toArray, List.set_cons_zero, List.set_cons_succ]
            refine wpAnyH_take (i := 12) (oi := { dst := some 39, op := Op.load 90 (Operand.tmp 38), type := 90, pos := "l06_jar.go:132", after := #[{ on := 11, ground := Ground.data }, { on := 8, ground := Ground.guard }], guard := some (8, true) }) (v := ?vd12) rfl (by kernel_rfl) (by kernel_rfl) (by kernel_rfl) (fun _ _ _ h => h) (Or.inl ⟨by rfl, ?hyd12⟩) (by assumption) ?restd12
            case hyd12 =>
              intro w hSw
              (try dsimp only at hSw)
              go_simp
              try with_reducible rfl
            try simp only [Act.put, List.setIfInBounds_toArray, List.set_cons_zero, List.set_cons_succ]
            refine wpAnyH_take (i := 13) (oi := { dst := some 40, op := Op.load 45 (Operand.tmp 7), type := 45, pos := "l06_jar.go:132", after := #[{ on := 8, ground := Ground.guard }], guard := some (8, true) }) (v := ?vd13) rfl (by kernel_rfl) (by kernel_rfl) (by kernel_rfl) (fun _ _ _ h => h) (Or.inl ⟨by rfl, ?hyd13⟩) (by assumption) ?restd13
            case hyd13 =>
              intro w hSw
              (try dsimp only at hSw)
              go_simp
              try with_reducible rfl
            try simp only [Act.put, List.setIfInBounds_toArray, List.set_cons_zero, List.set_cons_succ]
            refine wpAnyH_take (i := 14) (oi := { dst := some 41, op := Op.move (Operand.tmp 2), type := 9, pos := "l06_jar.go:132", after := #[{ on := 8, ground := Ground.guard }], guard := some (8, true) }) (v := ?vd14) rfl (by kernel_rfl) (by kernel_rfl) (by kernel_rfl) (fun _ _ _ h => h) (Or.inl ⟨by rfl, ?hyd14⟩) (by assumption) ?restd14
            case hyd14 =>
              intro w hSw
              (try dsimp only at hSw)
              go_simp
              try with_reducible rfl
            try simp only [Act.put, List.setIfInBounds_toArray, List.set_cons_zero, List.set_cons_succ]
            refine wpAnyH_take (i := 15) (oi := { dst := some 42, op := Op.move (Operand.tmp 3), type := 4, pos := "l06_jar.go:132", after := #[{ on := 8, ground := Ground.guard }], guard := some (8, true) }) (v := ?vd15) rfl (by kernel_rfl) (by kernel_rfl) (by kernel_rfl) (fun _ _ _ h => h) (Or.inl ⟨by rfl, ?hyd15⟩) (by assumption) ?restd15
            case hyd15 =>
              intro w hSw
              (try dsimp only at hSw)
              go_simp
              try with_reducible rfl
            try simp only [Act.put, List.setIfInBounds_toArray, List.set_cons_zero, List.set_cons_succ]
            refine wpAnyH_take (i := 16) (oi := { dst := some 43, op := Op.move (Operand.tmp 4), type := 4, pos := "l06_jar.go:132", after := #[{ on := 8, ground := Ground.guard }], guard := some (8, true) }) (v := ?vd16) rfl (by kernel_rfl) (by kernel_rfl) (by kernel_rfl) (fun _ _ _ h => h) (Or.inl ⟨by rfl, ?hyd16⟩) (by assumption) ?restd16
            case hyd16 =>
              intro w hSw
              (try dsimp only at hSw)
              go_simp
              try with_reducible rfl
            try simp only [Act.put, List.setIfInBounds_toArray, List.set_cons_zero, List.set_cons_succ]
            refine wpAnyH_take (i := 17) (oi := { dst := some 44, op := Op.move (Operand.tmp 5), type := 2, pos := "l06_jar.go:132", after := #[{ on := 8, ground := Ground.guard }], guard := some (8, true) }) (v := ?vd17) rfl (by kernel_rfl) (by kernel_rfl) (by kernel_rfl) (fun _ _ _ h => h) (Or.inl ⟨by rfl, ?hyd17⟩) (by assumption) ?restd17
            case hyd17 =>
              intro w hSw
              (try dsimp only at hSw)
              go_simp
              try with_reducible rfl
            try simp only [Act.put, List.setIfInBounds_toArray, List.set_cons_zero, List.set_cons_succ]
            refine wpAnyH_ready (rs := [18]) (by kernel_rfl) (by simp) ?_
            refine AllReadyH.cons (o := { dst := some 45, op := Op.call { callee := Callee.value (Operand.func 122), args := #[Operand.tmp 39, Operand.tmp 40, Operand.tmp 41, Operand.tmp 42, Operand.tmp 43, Operand.tmp 44], argTypes := #[90, 45, 9, 4, 4, 2] }, type := 4, pos := "l06_jar.go:132", after := #[{ on := 12, ground := Ground.data }, { on := 13, ground := Ground.data }, { on := 14, ground := Ground.data }, { on := 15, ground := Ground.data }, { on := 16, ground := Ground.data }, { on := 17, ground := Ground.data }, { on := 8, ground := Ground.chain }, { on := 8, ground := Ground.guard }], guard := some (8, true) }) rfl (fun K hK => ?_) AllReadyH.nil
            go_simp
            (go_at_call 122; refine (KG1.out _).mono ?_; rintro e w5 ⟨rfl, hb5⟩; have A5 : Below wr.heap.size wr w5 := (Below.drew (Below.refl _ _)).trans hb5; have d0 := ((bcell A5).1 _ _ hgr).trans c0; have d1 := ((bcell A5).1 _ _ hgr).trans c1; have d2 := ((bcell A5).1 _ _ hgr).trans c2; have d3 := ((bcell A5).1 _ _ hgr).trans c3; have d4 := ((bcell A5).1 _ _ hgr).trans c4; have d5 := ((bcell A5).1 _ _ hgr).trans c5; have d6 := ((bcell A5).1 _ _ hgr).trans c6; have d7 := ((bcell A5).1 _ _ hgr).trans c7; have d8 := ((bcell A5).1 _ _ hgr).trans c8; have d9 := ((bcell A5).1 _ _ hgr).trans c9; have v0 := ((bcell A5).1 _ _ hur).trans u0; have v1 := ((bcell A5).1 _ _ hur).trans u1; have v2 := ((bcell A5).1 _ _ hur).trans u2; have v3 := ((bcell A5).1 _ _ hur).trans u3)
            try (go_wp2_with fail)
            refine hK.out _ _ ?_ (fun hH1 => ?_)
            · (try dsimp only)
              first | go_keep | (refine ⟨?_, ?_, ?_, ?_, ?_, ?_, ?_, ?_, ?_, ?_, ?_, ?_, ?_, ?_⟩ <;> assumption)
            clear hK K hH0
            try simp only [Act.put, List.setIfInBounds_toArray, List.set_cons_zero, List.set_cons_succ]
            refine wpAnyH_take (i := 19) (oi := { dst := some 46, op := Op.pick (Operand.tmp 35) (Operand.tmp 45) (Operand.const (Value.bool false)), type := 4, pos := "l06_jar.go:132", after := #[{ on := 8, ground := Ground.data }, { on := 18, ground := Ground.data }], guard := none }) (v := ?vd19) rfl (by kernel_rfl) (by kernel_rfl) (by kernel_rfl) (fun _ _ _ h => h) (Or.inl ⟨by rfl, ?hyd19⟩) (by assumption) ?restd19
            case hyd19 =>
              intro w hSw
              (try dsimp only at hSw)
              go_simp
              try with_reducible rfl
            try simp only [Act.put, List.setIfInBounds_toArray, List.set_cons_zero, List.set_cons_succ]
            refine wpAnyH_done (by kernel_rfl) ?_ _
            have O5 : Hid (w5.ownsRow B0 99 2 _ (F n k).length (pairCells (F n k))) := ownR_below HO.out A5
            have AW : Hid (Below B0 WU w5) := HB.out.trans (A5.mono hbr)
            have BW : Hid (Below w.heap.size w w5) := BU.out.trans (AW.out.mono (by omega))
            have hw5 : B0 ≤ w5.heap.size := Nat.le_trans hbr A5.size
            cases pk with
            | true =>
              have HNX : Hid (∀ (v : Value) (W : World), W.ownsRow B0 99 2 v ((F n k).length + 1) (pairCells (F n k) ++ [.string na, .string va]) → W.ownsRow B0 99 2 v (F n (k + 1)).length (pairCells (F n (k + 1)))) := fun v W h => HY1 hsz rfl v B0 W h
              clear HY1 HN1 KG1 HO HB
              go_upto_region 9 with fail
              refine wp_region_held_drew (S := (fun w' => w'.cell? ⟨g, k * 10, none⟩ = some (.string na) ∧ w'.cell? ⟨g, k * 10 + 1, none⟩ = some (.string va))) (by kernel_rfl) ?_ (fun hH0 => ?_)
              · (try dsimp only)
                go_keep
              refine wpAnyH_take (i := 0) (oi := { dst := some 47, op := Op.move (Operand.tmp 13), type := 41, pos := "l06_jar.go:133", after := #[], guard := none }) (v := ?vf0) rfl (by kernel_rfl) (by kernel_rfl) (by kernel_rfl) (fun _ _ _ h => h) (Or.inl ⟨by rfl, ?hyf0⟩) (by assumption) ?restf0
              case hyf0 =>
                intro w hSw
                (try dsimp only at hSw)
                go_simp
                try with_reducible rfl
              try simp only [Act.put, List.setIfInBounds_toArray, List.set_cons_zero, List.set_cons_succ]
              refine wpAnyH_take (i := 1) (oi := { dst := some 48, op := Op.move (Operand.tmp 0), type := 43, pos := "l06_jar.go:133", after := #[], guard := none }) (v := ?vf1) rfl (by kernel_rfl) (by kernel_rfl) (by kernel_rfl) (fun _ _ _ h => h) (Or.inl ⟨by rfl, ?hyf1⟩) (by assumption) ?restf1
              case hyf1 =>
                intro w hSw
                (try dsimp only at hSw)
                go_simp
                try with_reducible rfl
              try simp only [Act.put, List.setIfInBounds_toArray, List.set_cons_zero, List.set_cons_succ]
              refine wpAnyH_take (i := 2) (oi := { dst := some 49, op := Op.move (Operand.tmp 15), type := 3, pos := "l06_jar.go:133", after := #[], guard := none }) (v := ?vf2) rfl (by kernel_rfl) (by kernel_rfl) (by kernel_rfl) (fun _ _ _ h => h) (Or.inl ⟨by rfl, ?hyf2⟩) (by assumption) ?restf2
              case hyf2 =>
                intro w hSw
                (try dsimp only at hSw)
                go_simp
                try with_reducible rfl
              try simp only [Act.put, List.setIfInBounds_toArray, List.set_cons_zero, List.set_cons_succ]
              refine wpAnyH_take (i := 3) (oi := { dst := some 50, op := Op.indexAddr 43 (Operand.tmp 48) (Operand.tmp 49), type := 0, pos := "l06_jar.go:133", after := #[{ on := 1, ground := Ground.data }, { on := 2, ground := Ground.data }], guard := none }) (v := ?vf3) rfl (by kernel_rfl) (by kernel_rfl) (by kernel_rfl) (fun _ _ _ h => h) (Or.inl ⟨by rfl, ?hyf3⟩) (by assumption) ?restf3
              case hyf3 =>
                intro w hSw
                (try dsimp only at hSw)
                go_simp
                try with_reducible rfl
              try simp only [Act.put, List.setIfInBounds_toArray, List.set_cons_zero, List.set_cons_succ]
              refine wpAnyH_take (i := 4) (oi := { dst := some 51, op := Op.fieldAddr 90 (Operand.tmp 50) 0, type := 0, pos := "l06_jar.go:133", after := #[{ on := 3, ground := Ground.data }], guard := none }) (v := ?vf4) rfl (by kernel_rfl) (by kernel_rfl) (by kernel_rfl) (fun _ _ _ h => h) (Or.inl ⟨by rfl, ?hyf4⟩) (by assumption) ?restf4
              case hyf4 =>
                intro w hSw
                (try dsimp only at hSw)
                go_simp
                try with_reducible rfl
              try simp only [Act.put, List.setIfInBounds_toArray, List.set_cons_zero, List.set_cons_succ]
              refine wpAnyH_take (i := 5) (oi := { dst := some 52, op := Op.load 9 (Operand.tmp 51), type := 9, pos := "l06_jar.go:133", after := #[{ on := 4, ground := Ground.data }], guard := none }) (v := ?vf5) rfl (by kernel_rfl) (by kernel_rfl) (by kernel_rfl) (fun _ _ _ h => h) (Or.inl ⟨by rfl, ?hyf5⟩) (by assumption) ?restf5
              case hyf5 =>
                intro w hSw
                (try dsimp only at hSw)
                go_simp
                try with_reducible rfl
              try simp only [Act.put, List.setIfInBounds_toArray, List.set_cons_zero, List.set_cons_succ]
              refine wpAnyH_take (i := 6) (oi := { dst := some 53, op := Op.move (Operand.tmp 0), type := 43, pos := "l06_jar.go:133", after := #[], guard := none }) (v := ?vf6) rfl (by kernel_rfl) (by kernel_rfl) (by kernel_rfl) (fun _ _ _ h => h) (Or.inl ⟨by rfl, ?hyf6⟩) (by assumption) ?restf6
              case hyf6 =>
                intro w hSw
                (try dsimp only at hSw)
                go_simp
                try with_reducible rfl
              try simp only [Act.put, List.setIfInBounds_toArray, List.set_cons_zero, List.set_cons_succ]
              refine wpAnyH_take (i := 7) (oi := { dst := some 54, op := Op.move (Operand.tmp 15), type := 3, pos := "l06_jar.go:133", after := #[], guard := none }) (v := ?vf7) rfl (by kernel_rfl) (by kernel_rfl) (by kernel_rfl) (fun _ _ _ h => h) (Or.inl ⟨by rfl, ?hyf7⟩) (by assumption) ?restf7
              case hyf7 =>
                intro w hSw
                (try dsimp only at hSw)
                go_simp
                try with_reducible rfl
              try simp only [Act.put, List.setIfInBounds_toArray, List.set_cons_zero, List.set_cons_succ]
              refine wpAnyH_take (i := 8) (oi := { dst := some 55, op := Op.indexAddr 43 (Operand.tmp 53) (Operand.tmp 54), type := 0, pos := "l06_jar.go:133", after := #[{ on := 6, ground := Ground.data }, { on := 7, ground := Ground.data }], guard := none }) (v := ?vf8) rfl (by kernel_rfl) (by kernel_rfl) (by kernel_rfl) (fun _ _ _ h => h) (Or.inl ⟨by rfl, ?hyf8⟩) (by assumption) ?restf8
              case hyf8 =>
                intro w hSw
                (try dsimp only at hSw)
                go_simp
                try with_reducible rfl
              try simp only [Act.put, List.setIfInBounds_toArray, List.set_cons_zero, List.set_cons_succ]
              refine wpAnyH_take (i := 9) (oi := { dst := some 56, op := Op.fieldAddr 90 (Operand.tmp 55) 1, type := 0, pos := "l06_jar.go:133", after := #[{ on := 8, ground := Ground.data }], guard := none }) (v := ?vf9) rfl (by kernel_rfl) (by kernel_rfl) (by kernel_rfl) (fun _ _ _ h => h) (Or.inl ⟨by rfl, ?hyf9⟩) (by assumption) ?restf9
              case hyf9 =>
                intro w hSw
                (try dsimp only at hSw)
                go_simp
                try with_reducible rfl
              try simp only [Act.put, List.setIfInBounds_toArray, List.set_cons_zero, List.set_cons_succ]
              refine wpAnyH_take (i := 10) (oi := { dst := some 57, op := Op.load 9 (Operand.tmp 56), type := 9, pos := "l06_jar.go:133", after := #[{ on := 9, ground := Ground.data }], guard := none }) (v := ?vf10) rfl (by kernel_rfl) (by kernel_rfl) (by kernel_rfl) (fun _ _ _ h => h) (Or.inl ⟨by rfl, ?hyf10⟩) (by assumption) ?restf10
              case hyf10 =>
                intro w hSw
                (try dsimp only at hSw)
                go_simp
                try with_reducible rfl
              try simp only [Act.put, List.setIfInBounds_toArray, List.set_cons_zero, List.set_cons_succ]
              refine wpAnyH_take (i := 11) (oi := { dst := some 58, op := Op.build 99 #[(0, Operand.tmp 52), (1, Operand.tmp 57)], type := 99, pos := "l06_jar.go:133", after := #[{ on := 5, ground := Ground.data }, { on := 10, ground := Ground.data }], guard := none }) (v := ?vf11) rfl (by kernel_rfl) (by kernel_rfl) (by kernel_rfl) (fun _ _ _ h => h) (Or.inl ⟨by rfl, ?hyf11⟩) (by assumption) ?restf11
              case hyf11 =>
                intro w hSw
                (try dsimp only at hSw)
                go_simp
                try with_reducible rfl
              try simp only [Act.put, List.setIfInBounds_toArray, List.set_cons_zero, List.set_cons_succ]
              refine wpAnyH_ready (rs := [12]) (by kernel_rfl) (by simp) ?_
              refine AllReadyH.cons (o := { dst := some 59, op := Op.buildSlice 41 1 #[(0, Operand.tmp 58)], type := 41, pos := "l06_jar.go:133", after := #[{ on := 11, ground := Ground.data }], guard := none }) rfl (fun K hK => ?_) AllReadyH.nil
              go_simp
              (skip)
              try (go_wp2_with fail)
              refine hK.out _ _ ?_ (fun hH1 => ?_)
              · (try dsimp only)
                first | go_keep | (refine ⟨?_, ?_⟩ <;> assumption)
              clear hK K hH0
              try simp only [Act.put, List.setIfInBounds_toArray, List.set_cons_zero, List.set_cons_succ]
              refine wpAnyH_ready (rs := [13]) (by kernel_rfl) (by simp) ?_
              refine AllReadyH.cons (o := { dst := some 60, op := Op.call { callee := Callee.builtin Builtin.append, args := #[Operand.tmp 47, Operand.tmp 59], argTypes := #[41, 41] }, type := 41, pos := "l06_jar.go:133", after := #[{ on := 0, ground := Ground.data }, { on := 12, ground := Ground.data }], guard := none }) rfl (fun K hK => ?_) AllReadyH.nil
              (rw [if_pos (by rfl)]; refine wp_append_own _ _ _ 41 rfl B0 99 i0 (.agg #[.string ⟨#[]⟩, .string ⟨#[]⟩]) 2 32 Tryd.underlying41 hi hy0 hy1 hy2 rfl (by decide) _ _ _ (by rfl) (O5.out.drew.alloc _) ⟨w5.heap.size, 0, none⟩ 1 1 [.string na, .string va] (by rfl) rfl (World.news_of_block (cs := #[.string na, .string va]) (t := 99) (fr := (0, 0)) (heap_alloc_new w5.drew _)) (by simp [Value.oneCell']) (by unfold maxLen; omega) (by omega) (by simp; omega) ?_; intro v1 w7 ho7 hg7 hn7; have B7 : Hid (Below w.heap.size w w7) := (BW.out.drew.alloc (by simp; omega) _).grown hg7 (by simp; omega) (fun j hj => by have := own_base O5.out j hj; omega); have A7 : Hid (Below B0 WU w7) := (AW.out.drew.alloc (by simp; omega) _).grown hg7 (by simp; omega) (fun j hj => own_base O5.out j hj); have e0 := ((bcell7 _ _ hg0 A7.out).trans e00); have e1 := ((bcell7 _ _ hg0 A7.out).trans e01); have O7 := HNX.out _ _ ho7; clear ho7 hg7 hn7)
              refine hK.out _ _ ?_ (fun hH2 => ?_)
              · (try dsimp only)
                first | go_keep | (refine ⟨?_, ?_⟩ <;> assumption)
              clear hK K hH1
              try simp only [Act.put, List.setIfInBounds_toArray, List.set_cons_zero, List.set_cons_succ]
              refine wpAnyH_take (i := 14) (oi := { dst := some 13, op := Op.assign (Operand.tmp 60), type := 41, pos := "l06_jar.go:133", after := #[{ on := 13, ground := Ground.data }, { on := 13, ground := Ground.chain }, { on := 0, ground := Ground.phase }, { on := 1, ground := Ground.phase }, { on := 2, ground := Ground.phase }, { on := 3, ground := Ground.phase }, { on := 4, ground := Ground.phase }, { on := 5, ground := Ground.phase }, { on := 6, ground := Ground.phase }, { on := 7, ground := Ground.phase }, { on := 8, ground := Ground.phase }, { on := 9, ground := Ground.phase }, { on := 10, ground := Ground.phase }, { on := 11, ground := Ground.phase }, { on := 12, ground := Ground.phase }, { on := 13, ground := Ground.phase }], guard := none }) (v := ?vf14) rfl (by kernel_rfl) (by kernel_rfl) (by kernel_rfl) (fun _ _ _ h => h) (Or.inl ⟨by rfl, ?hyf14⟩) (by assumption) ?restf14
              case hyf14 =>
                intro w hSw
                (try dsimp only at hSw)
                go_simp
                try with_reducible rfl
              try simp only [Act.put, List.setIfInBounds_toArray, List.set_cons_zero, List.set_cons_succ]
              refine wpAnyH_done (by kernel_rfl) ?_ _
              all_goals go_wp2
              have O7h : Hid (World.ownsRow _ B0 99 2 v1 (F n (k + 1)).length (pairCells (F n (k + 1)))) := O7
              go_roundw
              case rel => exact ⟨k + 1, by omega, by go_num, O7h, A7⟩
              case measure => simp [intOf]; omega
            | false =>
              have HE1 := HN1 (by rw [Bool.and_false])
              have ON : Hid (∀ v : Value, w5.ownsRow B0 99 2 v (F n k).length (pairCells (F n k)) → w5.ownsRow B0 99 2 v (F n (k + 1)).length (pairCells (F n (k + 1)))) := fun v h => by rw [HE1]; exact h
              clear HY1 HN1 HE1 KG1 HO HB
              all_goals go_wp2
              go_roundw
              case rel => exact ⟨k + 1, by omega, by go_num, ON.out _ O5.out, AW⟩
              case measure => simp [intOf]; omega
          · have qs : ((pa.size : Int) == (n : Int)) = false := by rw [beq_eq_false_iff_ne]; omega
            have HE1 := HN1 (by rw [show (pa.size == n) = false from by rw [beq_eq_false_iff_ne]; exact hsz]; rfl)
            have ON : Hid (∀ v : Value, wr.ownsRow B0 99 2 v (F n k).length (pairCells (F n k)) → wr.drew.ownsRow B0 99 2 v (F n (k + 1)).length (pairCells (F n (k + 1)))) := fun v h => by rw [HE1]; exact h
            have AN : Hid (Below B0 WU wr.drew) := HB.out.drew
            clear HY1 HN1 HE1 KG1
            go_upto_region 8 with fail
            refine wp_region_held_drew (S := (fun w' => w'.cell? ⟨g, k * 10, none⟩ = some (.string na) ∧ w'.cell? ⟨g, k * 10 + 1, none⟩ = some (.string va) ∧ w'.cell? ⟨g, k * 10 + 2, none⟩ = some (.string ho) ∧ w'.cell? ⟨g, k * 10 + 3, none⟩ = some (.bool al) ∧ w'.cell? ⟨g, k * 10 + 4, none⟩ = some (.string pa) ∧ w'.cell? ⟨g, k * 10 + 5, none⟩ = some (.bool se) ∧ w'.cell? ⟨g, k * 10 + 6, none⟩ = some (.int .i64 mo) ∧ w'.cell? ⟨g, k * 10 + 7, none⟩ = some (.string pt) ∧ w'.cell? ⟨g, k * 10 + 8, none⟩ = some (.int .i64 un) ∧ w'.cell? ⟨g, k * 10 + 9, none⟩ = some (.int .i64 ma) ∧ w'.cell? ⟨w.heap.size, 0, none⟩ = some (.string sc) ∧ w'.cell? ⟨w.heap.size, 1, none⟩ = some (.string uh) ∧ w'.cell? ⟨w.heap.size, 2, none⟩ = some (.int .i64 po) ∧ w'.cell? ⟨w.heap.size, 3, none⟩ = some (.string up))) (by kernel_rfl) ?_ (fun hH0 => ?_)
            · (try dsimp only)
              go_keep
            refine wpAnyH_take (i := 0) (oi := { dst := some 27, op := Op.move (Operand.tmp 0), type := 43, pos := "l06_jar.go:132", after := #[], guard := none }) (v := ?ve0) rfl (by kernel_rfl) (by kernel_rfl) (by kernel_rfl) (fun _ _ _ h => h) (Or.inl ⟨by rfl, ?hye0⟩) (by assumption) ?reste0
            case hye0 =>
              intro w hSw
              (try dsimp only at hSw)
              go_simp
              try with_reducible rfl
            try simp only [Act.put, List.setIfInBounds_toArray, List.set_cons_zero, List.set_cons_succ]
            refine wpAnyH_take (i := 1) (oi := { dst := some 28, op := Op.move (Operand.tmp 15), type := 3, pos := "l06_jar.go:132", after := #[], guard := none }) (v := ?ve1) rfl (by kernel_rfl) (by kernel_rfl) (by kernel_rfl) (fun _ _ _ h => h) (Or.inl ⟨by rfl, ?hye1⟩) (by assumption) ?reste1
            case hye1 =>
              intro w hSw
              (try dsimp only at hSw)
              go_simp
              try with_reducible rfl
            try simp only [Act.put, List.setIfInBounds_toArray, List.set_cons_zero, List.set_cons_succ]
            refine wpAnyH_take (i := 2) (oi := { dst := some 29, op := Op.indexAddr 43 (Operand.tmp 27) (Operand.tmp 28), type := 0, pos := "l06_jar.go:132", after := #[{ on := 0, ground := Ground.data }, { on := 1, ground := Ground.data }], guard := none }) (v := ?ve2) rfl (by kernel_rfl) (by kernel_rfl) (by kernel_rfl) (fun _ _ _ h => h) (Or.inl ⟨by rfl, ?hye2⟩) (by assumption) ?reste2
            case hye2 =>
              intro w hSw
              (try dsimp only at hSw)
              go_simp
              try with_reducible rfl
            try simp only [Act.put, List.setIfInBounds_toArray, List.set_cons_zero, List.set_cons_succ]
            refine wpAnyH_take (i := 3) (oi := { dst := some 30, op := Op.fieldAddr 90 (Operand.tmp 29) 4, type := 0, pos := "l06_jar.go:132", after := #[{ on := 2, ground := Ground.data }], guard := none }) (v := ?ve3) rfl (by kernel_rfl) (by kernel_rfl) (by kernel_rfl) (fun _ _ _ h => h) (Or.inl ⟨by rfl, ?hye3⟩) (by assumption) ?reste3
            case hye3 =>
              intro w hSw
              (try dsimp only at hSw)
              go_simp
              try with_reducible rfl
            try simp only [Act.put, List.setIfInBounds_toArray, List.set_cons_zero, List.set_cons_succ]
            refine wpAnyH_take (i := 4) (oi := { dst := some 31, op := Op.load 9 (Operand.tmp 30), type := 9, pos := "l06_jar.go:132", after := #[{ on := 3, ground := Ground.data }], guard := none }) (v := ?ve4) rfl (by kernel_rfl) (by kernel_rfl) (by kernel_rfl) (fun _ _ _ h => h) (Or.inl ⟨by rfl, ?hye4⟩) (by assumption) ?reste4
            case hye4 =>
              intro w hSw
              (try dsimp only at hSw)
              go_simp
              try with_reducible rfl
            try simp only [Act.put, List.setIfInBounds_toArray, List.set_cons_zero, List.set_cons_succ]
            refine wpAnyH_take (i := 5) (oi := { dst := some 32, op := Op.call { callee := Callee.builtin Builtin.len, args := #[Operand.tmp 31], argTypes := #[9] }, type := 3, pos := "l06_jar.go:132", after := #[{ on := 4, ground := Ground.data }], guard := none }) (v := ?ve5) rfl (by kernel_rfl) (by kernel_rfl) (by kernel_rfl) (fun _ _ _ h => h) (Or.inl ⟨by rfl, ?hye5⟩) (by assumption) ?reste5
            case hye5 =>
              intro w hSw
              (try dsimp only at hSw)
              go_simp
              try with_reducible rfl
            try simp only [Act.put, List.setIfInBounds_toArray, List.set_cons_zero, List.set_cons_succ]
            refine wpAnyH_take (i := 6) (oi := { dst := some 33, op := Op.move (Operand.tmp 14), type := 3, pos := "l06_jar.go:132", after := #[], guard := none }) (v := ?ve6) rfl (by kernel_rfl) (by kernel_rfl) (by kernel_rfl) (fun _ _ _ h => h) (Or.inl ⟨by rfl, ?hye6⟩) (by assumption) ?reste6
            case hye6 =>
              intro w hSw
              (try dsimp only at hSw)
              go_simp
              try with_reducible rfl
            try simp only [Act.put, List.setIfInBounds_toArray, List.set_cons_zero, List.set_cons_succ]
            refine wpAnyH_take (i := 7) (oi := { dst := some 34, op := Op.binOp BinOp.eql 3 (Operand.tmp 32) (Operand.tmp 33) 3, type := 4, pos := "l06_jar.go:132", after := #[{ on := 5, ground := Ground.data }, { on := 6, ground := Ground.data }], guard := none }) (v := ?ve7) rfl (by kernel_rfl) (by kernel_rfl) (by kernel_rfl) (fun _ _ _ h => h) (Or.inl ⟨by rfl, ?hye7⟩) (by assumption) ?reste7
            case hye7 =>
              intro w hSw
              (try dsimp only at hSw)
              go_simp
              try with_reducible rfl
            try simp only [Act.put, List.setIfInBounds_toArray, List.set_cons_zero, List.set_cons_succ]
            refine wpAnyH_take (i := 8) (oi := { dst := some 35, op := Op.move (Operand.tmp 34), type := 4, pos := "l06_jar.go:132", after := #[{ on := 7, ground := Ground.data }], guard := none }) (v := ?ve8) rfl (by kernel_rfl) (by kernel_rfl) (by kernel_rfl) (fun _ _ _ h => h) (Or.inl ⟨by rfl, ?hye8⟩) (by assumption) ?reste8
            case hye8 =>
              intro w hSw
              (try dsimp only at hSw)
              go_simp
              try with_reducible rfl
            try simp only [Act.put, List.setIfInBounds_toArray, List.set_cons_zero, List.set_cons_succ]
            refine wpAnyH_take (i := 9) (oi := { dst := some 36, op := Op.move (Operand.tmp 0), type := 43, pos := "l06_jar.go:132", after := #[{ on := 8, ground := Ground.guard }], guard := some (8, true) }) (v := undef) rfl (by kernel_rfl) (by kernel_rfl) (by kernel_rfl) (fun _ _ _ h => h) (Or.inr ⟨by rfl, rfl⟩) (by assumption) ?_
            try simp only [Act.put, List.setIfInBounds_toArray, List.set_cons_zero, List.set_cons_succ]
            refine wpAnyH_take (i := 10) (oi := { dst := some 37, op := Op.move (Operand.tmp 15), type := 3, pos := "l06_jar.go:132", after := #[{ on := 8, ground := Ground.guard }], guard := some (8, true) }) (v := undef) rfl (by kernel_rfl) (by kernel_rfl) (by kernel_rfl) (fun _ _ _ h => h) (Or.inr ⟨by rfl, rfl⟩) (by assumption) ?_
            try simp only [Act.put, List.setIfInBounds_toArray, List.set_cons_zero, List.set_cons_succ]
            refine wpAnyH_take (i := 11) (oi := { dst := some 38, op := Op.indexAddr 43 (Operand.tmp 36) (Operand.tmp 37), type := 0, pos := "l06_jar.go:132", after := #[{ on := 9, ground := Ground.data }, { on := 10, ground := Ground.data }, { on := 8, ground := Ground.guard }], guard := some (8, true) }) (v := undef) rfl (by kernel_rfl) (by kernel_rfl) (by kernel_rfl) (fun _ _ _ h => h) (Or.inr ⟨by rfl, rfl⟩) (by assumption) ?_
            try simp only [Act.put, List.setIfInBounds_toArray, List.set_cons_zero, List.set_cons_succ]
            refine wpAnyH_take (i := 12) (oi := { dst := some 39, op := Op.load 90 (Operand.tmp 38), type := 90, pos := "l06_jar.go:132", after := #[{ on := 11, ground := Ground.data }, { on := 8, ground := Ground.guard }], guard := some (8, true) }) (v := undef) rfl (by kernel_rfl) (by kernel_rfl) (by kernel_rfl) (fun _ _ _ h => h) (Or.inr ⟨by rfl, rfl⟩) (by assumption) ?_
            try simp only [Act.put, List.setIfInBounds_toArray, List.set_cons_zero, List.set_cons_succ]
            refine wpAnyH_take (i := 13) (oi := { dst := some 40, op := Op.load 45 (Operand.tmp 7), type := 45, pos := "l06_jar.go:132", after := #[{ on := 8, ground := Ground.guard }], guard := some (8, true) }) (v := undef) rfl (by kernel_rfl) (by kernel_rfl) (by kernel_rfl) (fun _ _ _ h => h) (Or.inr ⟨by rfl, rfl⟩) (by assumption) ?_
            try simp only [Act.put, List.setIfInBounds_toArray, List.set_cons_zero, List.set_cons_succ]
            refine wpAnyH_take (i := 14) (oi := { dst := some 41, op := Op.move (Operand.tmp 2), type := 9, pos := "l06_jar.go:132", after := #[{ on := 8, ground := Ground.guard }], guard := some (8, true) }) (v := undef) rfl (by kernel_rfl) (by kernel_rfl) (by kernel_rfl) (fun _ _ _ h => h) (Or.inr ⟨by rfl, rfl⟩) (by assumption) ?_
            try simp only [Act.put, List.setIfInBounds_toArray, List.set_cons_zero, List.set_cons_succ]
            refine wpAnyH_take (i := 15) (oi := { dst := some 42, op := Op.move (Operand.tmp 3), type := 4, pos := "l06_jar.go:132", after := #[{ on := 8, ground := Ground.guard }], guard := some (8, true) }) (v := undef) rfl (by kernel_rfl) (by kernel_rfl) (by kernel_rfl) (fun _ _ _ h => h) (Or.inr ⟨by rfl, rfl⟩) (by assumption) ?_
            try simp only [Act.put, List.setIfInBounds_toArray, List.set_cons_zero, List.set_cons_succ]
            refine wpAnyH_take (i := 16) (oi := { dst := some 43, op := Op.move (Operand.tmp 4), type := 4, pos := "l06_jar.go:132", after := #[{ on := 8, ground := Ground.guard }], guard := some (8, true) }) (v := undef) rfl (by kernel_rfl) (by kernel_rfl) (by kernel_rfl) (fun _ _ _ h => h) (Or.inr ⟨by rfl, rfl⟩) (by assumption) ?_
            try simp only [Act.put, List.setIfInBounds_toArray, List.set_cons_zero, List.set_cons_succ]
            refine wpAnyH_take (i := 17) (oi := { dst := some 44, op := Op.move (Operand.tmp 5), type := 2, pos := "l06_jar.go:132", after := #[{ on := 8, ground := Ground.guard }], guard := some (8, true) }) (v := undef) rfl (by kernel_rfl) (by kernel_rfl) (by kernel_rfl) (fun _ _ _ h => h) (Or.inr ⟨by rfl, rfl⟩) (by assumption) ?_
            try simp only [Act.put, List.setIfInBounds_toArray, List.set_cons_zero, List.set_cons_succ]
            refine wpAnyH_take (i := 18) (oi := { dst := some 45, op := Op.call { callee := Callee.value (Operand.func 122), args := #[Operand.tmp 39, Operand.tmp 40, Operand.tmp 41, Operand.tmp 42, Operand.tmp 43, Operand.tmp 44], argTypes := #[90, 45, 9, 4, 4, 2] }, type := 4, pos := "l06_jar.go:132", after := #[{ on := 12, ground := Ground.data }, { on := 13, ground := Ground.data }, { on := 14, ground := Ground.data }, { on := 15, ground := Ground.data }, { on := 16, ground := Ground.data }, { on := 17, ground := Ground.data }, { on := 8, ground := Ground.chain }, { on := 8, ground := Ground.guard }], guard := some (8, true) }) (v := undef) rfl (by kernel_rfl) (by kernel_rfl) (by kernel_rfl) (fun _ _ _ h => h) (Or.inr ⟨by rfl, rfl⟩) (by assumption) ?_
            try simp only [Act.put, List.setIfInBounds_toArray, List.set_cons_zero, List.set_cons_succ]
            refine wpAnyH_take (i := 19) (oi := { dst := some 46, op := Op.pick (Operand.tmp 35) (Operand.tmp 45) (Operand.const (Value.bool false)), type := 4, pos := "l06_jar.go:132", after := #[{ on := 8, ground := Ground.data }, { on := 18, ground := Ground.data }], guard := none }) (v := ?ve19) rfl (by kernel_rfl) (by kernel_rfl) (by kernel_rfl) (fun _ _ _ h => h) (Or.inl ⟨by rfl, ?hye19⟩) (by assumption) ?reste19
            case hye19 =>
              intro w hSw
              (try dsimp only at hSw)
              go_simp
              try with_reducible rfl
            try simp only [Act.put, List.setIfInBounds_toArray, List.set_cons_zero, List.set_cons_succ]
            refine wpAnyH_done (by kernel_rfl) ?_ _
            all_goals go_wp2
            go_roundw
            case rel => exact ⟨k + 1, by omega, by go_num, ON.out _ HO.out, AN⟩
            case measure => simp [intOf]; omega
        · obtain rfl : k = L.length := by omega
          have ON : Hid (∀ v : Value, wr.ownsRow B0 99 2 v (F n L.length).length (pairCells (F n L.length)) → wr.ownsRow B0 99 2 v (F (n - 1) 0).length (pairCells (F (n - 1) 0))) := fun v h => by rw [← HT1.out]; exact h
          go_wp2
          go_roundw
          case rel => exact ⟨n - 1, by omega, val_int (by omega), ON.out _ HO.out, HB⟩
          case measure => simp [intOf]; omega
    · obtain rfl : n = 0 := by omega
      go_wp2
      go_ret
      exact ⟨_, rfl, by rw [HE.out]; exact (sliceP_of_own HO.out).mono (by omega), BU.out.trans (HB.out.mono (by omega))⟩
end Go.Proofs.YtimmoclemcnhnaaDoor

/- The walk of the specification's CookieRight. Written by cookie6.py. -/
namespace Go.Proofs.YtimmoclemcnhnaaDoor
open Go.RowKit

set_option maxRecDepth 10000 in
theorem specTime_any (n : Int) (w : World) :
    Calls Tryd.prog 74 #[.int .i64 n] w fun e w' => e = .returned (.bool (timeB n)) ∧ w' = w := by
  have H : Hid (∀ W, Calls Tryd.prog 121 #[.int .i64 n, .int .i64 0, .int .i64 1000000] W fun e w' => e = .returned (.bool (timeB n)) ∧ w' = W) := fun W => specIs_any n 0 1000000 W
  generalize timeB n = b at *
  go_enter Tryd.func74, Tryd.ntmps74
  go_wp2_with (go_at_call 121; refine (H.out _).mono ?_; rintro e w1 ⟨rfl, rfl⟩)
  go_ret
  exact ⟨rfl, rfl⟩
set_option maxRecDepth 10000 in
theorem specPart_any (t : ByteArray) (w : World) :
    Calls Tryd.prog 73 #[.string t] w fun e w' => e = .returned (.bool (partB t)) ∧ w' = w := by
  have HE : Hid (partB t = decide ((t.size : Int) ≤ 120)) := by show _ = _; unfold partB; rw [decide_eq_decide]; omega
  go_enter Tryd.func73, Tryd.ntmps73
  go_wp2
  go_ret
  exact ⟨ret_bool HE.out.symm, rfl⟩
set_option maxRecDepth 10000 in
set_option maxHeartbeats 4000000 in
theorem specCookie_any (c : Ck) (w : World) (hna : c.na.size ≤ 1048576) (hva : c.va.size ≤ 1048576) :
    Calls Tryd.prog 117 #[ckV c] w fun e w' => e = .returned (.bool (ckB c)) ∧ Below w.heap.size w w' := by
  obtain ⟨na, va, ho, al, pa, se, mo, pt, un, ma⟩ := c
  dsimp only at hna hva
  have K1 : Hid (∀ W, Calls Tryd.prog 168 #[.string na] W fun e w' => e = .returned (.bool (wordB na)) ∧ w' = W) := fun W => specWord_any na W hna
  have K2 : Hid (∀ W, Calls Tryd.prog 168 #[.string va] W fun e w' => e = .returned (.bool (wordB va)) ∧ w' = W) := fun W => specWord_any va W hva
  have K3 : Hid (∀ W, Calls Tryd.prog 20 #[.string ho] W fun e w' => e = .returned (.bool (hostB ho)) ∧ Below W.heap.size W w') := fun W => specHost_any ho W
  have K4 : Hid (∀ W, Calls Tryd.prog 120 #[.string pa] W fun e w' => e = .returned (.bool (pathB pa)) ∧ w' = W) := fun W => specPath_any pa W
  have K5 : Hid (∀ W, Calls Tryd.prog 169 #[.int .i64 mo] W fun e w' => e = .returned (.bool (modeB mo)) ∧ w' = W) := fun W => specMode_any mo W
  have K6 : Hid (∀ W, Calls Tryd.prog 73 #[.string pt] W fun e w' => e = .returned (.bool (partB pt)) ∧ w' = W) := fun W => specPart_any pt W
  have K7 : Hid (∀ W, Calls Tryd.prog 74 #[.int .i64 un] W fun e w' => e = .returned (.bool (timeB un)) ∧ w' = W) := fun W => specTime_any un W
  have K8 : Hid (∀ W, Calls Tryd.prog 74 #[.int .i64 ma] W fun e w' => e = .returned (.bool (timeB ma)) ∧ w' = W) := fun W => specTime_any ma W
  have HE : Hid (ckB ⟨na, va, ho, al, pa, se, mo, pt, un, ma⟩ = (!na.toList.isEmpty && wordB na && wordB va && hostB ho && pathB pa && modeB mo && partB pt && timeB un && timeB ma && safeB se mo pt)) := rfl
  clear hna hva
  unfold ckV
  dsimp only
  generalize ckB ⟨na, va, ho, al, pa, se, mo, pt, un, ma⟩ = R at *
  generalize wordB na = b1 at *
  generalize wordB va = b2 at *
  generalize hostB ho = b3 at *
  generalize pathB pa = b4 at *
  generalize modeB mo = b5 at *
  generalize partB pt = b6 at *
  generalize timeB un = b7 at *
  generalize timeB ma = b8 at *
  go_enter Tryd.func117, Tryd.ntmps117
  cases hnE : na.toList.isEmpty with
  | true =>
    go_wp2
    go_ret
    exact ⟨ret_bool (by rw [HE.out]; first | rfl | simp [*]), (Below.refl _ _).alloc (Nat.le_refl _) _⟩
  | false =>
    go_wp2_with fail
    refine (K1.out _).mono ?_
    rintro e w1 ⟨rfl, rfl⟩
    cases b1 with
    | false =>
      go_wp2
      go_ret
      exact ⟨ret_bool (by rw [HE.out, hnE]; first | rfl | simp [*]), (Below.refl _ _).alloc (Nat.le_refl _) _⟩
    | true =>
      go_wp2_with fail
      refine (K2.out _).mono ?_
      rintro e w2 ⟨rfl, rfl⟩
      cases b2 with
      | false =>
        go_wp2
        go_ret
        exact ⟨ret_bool (by rw [HE.out, hnE]; first | rfl | simp [*]), (Below.refl _ _).alloc (Nat.le_refl _) _⟩
      | true =>
        go_wp2_with fail
        refine (K3.out _).mono ?_
        rintro e w3 ⟨rfl, hb3⟩
        have hz_w3 : w.heap.size < w3.heap.size := by have := hb3.size; simp at this; omega
        have g4_w3 : w3.cell? ⟨w.heap.size, 4, none⟩ = some (.string pa) := by rw [(bcell hb3).1 _ _ (by simp)]; simp
        have g5_w3 : w3.cell? ⟨w.heap.size, 5, none⟩ = some (.bool se) := by rw [(bcell hb3).1 _ _ (by simp)]; simp
        have g6_w3 : w3.cell? ⟨w.heap.size, 6, none⟩ = some (.int .i64 mo) := by rw [(bcell hb3).1 _ _ (by simp)]; simp
        have g7_w3 : w3.cell? ⟨w.heap.size, 7, none⟩ = some (.string pt) := by rw [(bcell hb3).1 _ _ (by simp)]; simp
        have g8_w3 : w3.cell? ⟨w.heap.size, 8, none⟩ = some (.int .i64 un) := by rw [(bcell hb3).1 _ _ (by simp)]; simp
        have g9_w3 : w3.cell? ⟨w.heap.size, 9, none⟩ = some (.int .i64 ma) := by rw [(bcell hb3).1 _ _ (by simp)]; simp
        have B_w3 : Hid (Below w.heap.size w w3) := ((Below.refl _ _).alloc (Nat.le_refl _) _).trans (hb3.mono (by simp))
        clear hb3
        cases b3 with
        | false =>
          go_wp2
          go_ret
          exact ⟨ret_bool (by rw [HE.out, hnE]; first | rfl | simp [*]), B_w3.out⟩
        | true =>
          go_wp2_with fail
          refine (K4.out _).mono ?_
          rintro e _ ⟨rfl, rfl⟩
          cases b4 with
          | false =>
            go_wp2
            go_ret
            exact ⟨ret_bool (by rw [HE.out, hnE]; first | rfl | simp [*]), B_w3.out⟩
          | true =>
            go_wp2_with fail
            refine (K5.out _).mono ?_
            rintro e _ ⟨rfl, rfl⟩
            cases b5 with
            | false =>
              go_wp2
              go_ret
              exact ⟨ret_bool (by rw [HE.out, hnE]; first | rfl | simp [*]), B_w3.out⟩
            | true =>
              go_wp2_with fail
              refine (K6.out _).mono ?_
              rintro e _ ⟨rfl, rfl⟩
              cases b6 with
              | false =>
                go_wp2
                go_ret
                exact ⟨ret_bool (by rw [HE.out, hnE]; first | rfl | simp [*]), B_w3.out⟩
              | true =>
                go_wp2_with fail
                refine (K7.out _).mono ?_
                rintro e _ ⟨rfl, rfl⟩
                cases b7 with
                | false =>
                  go_wp2
                  go_ret
                  exact ⟨ret_bool (by rw [HE.out, hnE]; first | rfl | simp [*]), B_w3.out⟩
                | true =>
                  go_wp2_with fail
                  refine (K8.out _).mono ?_
                  rintro e _ ⟨rfl, rfl⟩
                  cases b8 with
                  | false =>
                    go_wp2
                    go_ret
                    exact ⟨ret_bool (by rw [HE.out, hnE]; first | rfl | simp [*]), B_w3.out⟩
                  | true =>
                    cases se with
                    | true =>
                      go_wp2
                      go_ret
                      exact ⟨ret_bool (by rw [HE.out, hnE]; first | rfl | simp [*]), B_w3.out⟩
                    | false =>
                      by_cases hm2 : mo = 2
                      · have qm : (mo != 2) = false := by rw [hm2]; rfl
                        have HS : Hid (safeB false mo pt = false) := by show _ = _; unfold safeB; rw [qm]; rfl
                        clear hm2
                        go_wp2
                        go_ret
                        exact ⟨ret_bool (by rw [HE.out, hnE]; first | rfl | (rw [HS.out]; rfl) | simp [*]), B_w3.out⟩
                      · have qm : (mo != 2) = true := by rw [bne_iff_ne]; exact hm2
                        have HS : Hid (safeB false mo pt = pt.toList.isEmpty) := by show _ = _; unfold safeB; rw [qm]; rfl
                        clear hm2
                        go_wp2
                        go_ret
                        exact ⟨ret_bool (by rw [HE.out, hnE]; first | rfl | (rw [HS.out]; rfl) | simp [*]), B_w3.out⟩
end Go.Proofs.YtimmoclemcnhnaaDoor

/- The walks of the specification's l06Same and JarRight. Written by specjar.py. -/
namespace Go.Proofs.YtimmoclemcnhnaaDoor
open Go.RowKit

set_option maxRecDepth 10000 in
set_option maxHeartbeats 4000000 in
theorem specSame6_any (a b : Ck) (w : World) :
    Calls Tryd.prog 118 #[ckV a, ckV b] w fun e w' => e = .returned (.bool (sameK a b)) ∧ Below w.heap.size w w' := by
  have HE : Hid (sameK a b = ((a.ho.toList == b.ho.toList) && (a.al == b.al) && (a.pa.toList == b.pa.toList) && (a.pt.toList == b.pt.toList) && (a.na.toList == b.na.toList))) := rfl
  have HB : Hid (∀ x y : Obj, Below w.heap.size w ((w.alloc x).alloc y)) := fun x y => ((Below.refl _ _).alloc (Nat.le_refl _) _).alloc (by simp) _
  generalize sameK a b = R at *
  obtain ⟨na, va, ho, al, pa, se, mo, pt, un, ma⟩ := a
  obtain ⟨na2, va2, ho2, al2, pa2, se2, mo2, pt2, un2, ma2⟩ := b
  unfold ckV
  dsimp only at HE ⊢
  cases h1 : (ho.toList == ho2.toList) with
  | false =>
    have HQ : Hid (R = false) := by show _ = _; rw [HE.out, h1]; rfl
    go_enter Tryd.func118, Tryd.ntmps118
    go_wp2
    go_ret
    exact ⟨ret_bool HQ.out.symm, HB.out _ _⟩
  | true =>
    cases h2 : (al == al2) with
    | false =>
      have HQ : Hid (R = false) := by show _ = _; rw [HE.out, h1, h2]; rfl
      go_enter Tryd.func118, Tryd.ntmps118
      go_wp2
      go_ret
      exact ⟨ret_bool HQ.out.symm, HB.out _ _⟩
    | true =>
      cases h3 : (pa.toList == pa2.toList) with
      | false =>
        have HQ : Hid (R = false) := by show _ = _; rw [HE.out, h1, h2, h3]; rfl
        go_enter Tryd.func118, Tryd.ntmps118
        go_wp2
        go_ret
        exact ⟨ret_bool HQ.out.symm, HB.out _ _⟩
      | true =>
        cases h4 : (pt.toList == pt2.toList) with
        | false =>
          have HQ : Hid (R = false) := by show _ = _; rw [HE.out, h1, h2, h3, h4]; rfl
          go_enter Tryd.func118, Tryd.ntmps118
          go_wp2
          go_ret
          exact ⟨ret_bool HQ.out.symm, HB.out _ _⟩
        | true =>
          have HQ : Hid (R = (na.toList == na2.toList)) := by show _ = _; rw [HE.out, h1, h2, h3, h4]; rfl
          go_enter Tryd.func118, Tryd.ntmps118
          go_wp2
          go_ret
          exact ⟨ret_bool HQ.out.symm, HB.out _ _⟩

set_option maxRecDepth 10000 in
set_option maxHeartbeats 8000000 in
theorem specJar_any (v : Value) (L : List Ck) (B : Nat) (w : World) (hs : SliceC w B v L) (hn : L.length ≤ 1048576) (hz : ∀ i, i < L.length → (atC L i).na.size ≤ 1048576 ∧ (atC L i).va.size ≤ 1048576) :
    Calls Tryd.prog 71 #[v] w fun e w' => e = .returned (.bool (jarB L)) ∧ Below w.heap.size w w' := by
  have KX : Hid (∀ j, j < L.length → ∀ W, Calls Tryd.prog 117 #[ckV (atC L j)] W fun e w' => e = .returned (.bool (ckB (atC L j))) ∧ Below W.heap.size W w') := fun j hj W => specCookie_any _ W (hz j hj).1 (hz j hj).2
  have HN : Hid (∀ k, k < L.length → okJ L k = false → jarB L = false) := fun k a b => jarB_at k a b
  have HY : Hid ((∀ i, i < L.length → okJ L i = true) → jarB L = decide ((L.length : Int) ≤ 12)) := fun h => by
    rw [jarB_all h, decide_eq_decide]; omega
  obtain ⟨⟨q, cap, rfl, hg⟩, -⟩ := hs
  have HG : Hid (0 < L.length → ∃ g, q = some ⟨g, 0, none⟩ ∧ g < w.heap.size ∧ ∀ j, j < L.length → ∀ o, o < 10 → w.cell? ⟨g, j * 10 + o, none⟩ = some (ckC (atC L j) o)) := fun h0 => by
    obtain ⟨g, e, -, hgw, hc⟩ := hg h0
    exact ⟨g, e, hgw, fun j hj o ho => (hc j hj o ho).1⟩
  clear hg hz
  generalize jarB L = R at *
  go_enter Tryd.func71, Tryd.ntmps71
  go_wp2
  go_loopw [3] (fun i wr => ∃ k : Nat, k ≤ L.length ∧ i = .int .i64 k ∧ Hid (Below w.heap.size w wr) ∧ Hid (∀ j, j < k → okJ L j = true)) (fun i _ => L.length - (intOf i).toNat)
  case atStart => exact ⟨0, Nat.zero_le _, rfl, Below.refl _ _, fun j hj => absurd hj (by omega)⟩
  case round =>
    obtain ⟨k, hk, rfl, HB, HR⟩ := hrel
    by_cases hlt : k < L.length
    · obtain ⟨g, rfl, hgw, hc⟩ := HG.out (by omega)
      have HC : Hid (∀ j, j < L.length → ∀ o, o < 10 → w.cell? ⟨g, j * 10 + o, none⟩ = some (ckC (atC L j) o)) := hc
      have hgr : g < wr.heap.size := Nat.lt_of_lt_of_le hgw HB.out.size
      have KC0 := KX.out k hlt
      have k0 : (0 : Int) ≤ k := by omega
      have k1 : (k : Int) < L.length := by omega
      have HKN : Hid (ckB (atC L k) = false → R = false) := fun e => HN.out k hlt (okJ_no e)
      have HKY : Hid (ckB (atC L k) = true → (k = 0 ∨ (atC L (k - 1)).ma < (atC L k).ma) → (∀ i, i < k → sameK (atC L i) (atC L k) = false) → okJ L k = true) := fun a b c => okJ_yes a b c
      have HSN : Hid (∀ j, j < k → sameK (atC L j) (atC L k) = true → R = false) := fun j hj e => HN.out k hlt (okJ_same j hj e)
      clear hc
      generalize hcb : ckB (atC L k) = cb at *
      clear hcb
      have c0 : wr.cell? ⟨g, k * 10, none⟩ = some (.string (atC L k).na) := by rw [(bcell HB.out).1 _ _ hgw]; exact HC.out k hlt 0 (by omega)
      have c1 : wr.cell? ⟨g, k * 10 + 1, none⟩ = some (.string (atC L k).va) := by rw [(bcell HB.out).1 _ _ hgw]; exact HC.out k hlt 1 (by omega)
      have c2 : wr.cell? ⟨g, k * 10 + 2, none⟩ = some (.string (atC L k).ho) := by rw [(bcell HB.out).1 _ _ hgw]; exact HC.out k hlt 2 (by omega)
      have c3 : wr.cell? ⟨g, k * 10 + 3, none⟩ = some (.bool (atC L k).al) := by rw [(bcell HB.out).1 _ _ hgw]; exact HC.out k hlt 3 (by omega)
      have c4 : wr.cell? ⟨g, k * 10 + 4, none⟩ = some (.string (atC L k).pa) := by rw [(bcell HB.out).1 _ _ hgw]; exact HC.out k hlt 4 (by omega)
      have c5 : wr.cell? ⟨g, k * 10 + 5, none⟩ = some (.bool (atC L k).se) := by rw [(bcell HB.out).1 _ _ hgw]; exact HC.out k hlt 5 (by omega)
      have c6 : wr.cell? ⟨g, k * 10 + 6, none⟩ = some (.int .i64 (atC L k).mo) := by rw [(bcell HB.out).1 _ _ hgw]; exact HC.out k hlt 6 (by omega)
      have c7 : wr.cell? ⟨g, k * 10 + 7, none⟩ = some (.string (atC L k).pt) := by rw [(bcell HB.out).1 _ _ hgw]; exact HC.out k hlt 7 (by omega)
      have c8 : wr.cell? ⟨g, k * 10 + 8, none⟩ = some (.int .i64 (atC L k).un) := by rw [(bcell HB.out).1 _ _ hgw]; exact HC.out k hlt 8 (by omega)
      have c9 : wr.cell? ⟨g, k * 10 + 9, none⟩ = some (.int .i64 (atC L k).ma) := by rw [(bcell HB.out).1 _ _ hgw]; exact HC.out k hlt 9 (by omega)
      cases cb with
      | false =>
        have HQ : Hid (R = false) := HKN.out rfl
        clear HKN HKY HSN
        generalize atC L k = y at *
        obtain ⟨na, va, ho, al, pa, se, mo, pt, un, ma⟩ := y
        unfold ckV at KC0
        dsimp only at *
        have KC : Hid (∀ W, Calls Tryd.prog 117 #[.agg #[.string na, .string va, .string ho, .bool al, .string pa, .bool se, .int .i64 mo, .string pt, .int .i64 un, .int .i64 ma]] W fun e w' => e = .returned (.bool false) ∧ Below W.heap.size W w') := KC0
        clear KC0
        go_wp2_with fail
        refine wp_region_held_drew (S := (fun w' => w'.cell? ⟨g, k * 10, none⟩ = some (.string na) ∧ w'.cell? ⟨g, k * 10 + 1, none⟩ = some (.string va) ∧ w'.cell? ⟨g, k * 10 + 2, none⟩ = some (.string ho) ∧ w'.cell? ⟨g, k * 10 + 3, none⟩ = some (.bool al) ∧ w'.cell? ⟨g, k * 10 + 4, none⟩ = some (.string pa) ∧ w'.cell? ⟨g, k * 10 + 5, none⟩ = some (.bool se) ∧ w'.cell? ⟨g, k * 10 + 6, none⟩ = some (.int .i64 mo) ∧ w'.cell? ⟨g, k * 10 + 7, none⟩ = some (.string pt) ∧ w'.cell? ⟨g, k * 10 + 8, none⟩ = some (.int .i64 un) ∧ w'.cell? ⟨g, k * 10 + 9, none⟩ = some (.int .i64 ma))) (by kernel_rfl) ?_ (fun hH0 => ?_)
        · (try dsimp only)
          go_keep
        refine wpAnyH_take (i := 0) (oi := { dst := some 11, op := Op.move (Operand.tmp 0), type := 43, pos := "l06_jar.go:18", after := #[], guard := none }) (v := ?va0) rfl (by kernel_rfl) (by kernel_rfl) (by kernel_rfl) (fun _ _ _ h => h) (Or.inl ⟨by rfl, ?hya0⟩) (by assumption) ?resta0
        case hya0 =>
          intro w hSw
          (try dsimp only at hSw)
          go_simp
          try with_reducible rfl
        try simp only [Act.put, List.setIfInBounds_toArray, List.set_cons_zero, List.set_cons_succ]
        refine wpAnyH_take (i := 1) (oi := { dst := some 12, op := Op.move (Operand.tmp 3), type := 3, pos := "l06_jar.go:18", after := #[], guard := none }) (v := ?va1) rfl (by kernel_rfl) (by kernel_rfl) (by kernel_rfl) (fun _ _ _ h => h) (Or.inl ⟨by rfl, ?hya1⟩) (by assumption) ?resta1
        case hya1 =>
          intro w hSw
          (try dsimp only at hSw)
          go_simp
          try with_reducible rfl
        try simp only [Act.put, List.setIfInBounds_toArray, List.set_cons_zero, List.set_cons_succ]
        refine wpAnyH_take (i := 2) (oi := { dst := some 13, op := Op.indexAddr 43 (Operand.tmp 11) (Operand.tmp 12), type := 0, pos := "l06_jar.go:18", after := #[{ on := 0, ground := Ground.data }, { on := 1, ground := Ground.data }], guard := none }) (v := ?va2) rfl (by kernel_rfl) (by kernel_rfl) (by kernel_rfl) (fun _ _ _ h => h) (Or.inl ⟨by rfl, ?hya2⟩) (by assumption) ?resta2
        case hya2 =>
          intro w hSw
          (try dsimp only at hSw)
          go_simp
          try with_reducible rfl
        try simp only [Act.put, List.setIfInBounds_toArray, List.set_cons_zero, List.set_cons_succ]
        refine wpAnyH_take (i := 3) (oi := { dst := some 14, op := Op.load 90 (Operand.tmp 13), type := 90, pos := "l06_jar.go:18", after := #[{ on := 2, ground := Ground.data }], guard := none }) (v := ?va3) rfl (by kernel_rfl) (by kernel_rfl) (by kernel_rfl) (fun _ _ _ h => h) (Or.inl ⟨by rfl, ?hya3⟩) (by assumption) ?resta3
        case hya3 =>
          intro w hSw
          (try dsimp only at hSw)
          go_simp
          try with_reducible rfl
        try simp only [Act.put, List.setIfInBounds_toArray, List.set_cons_zero, List.set_cons_succ]
        refine wpAnyH_ready (rs := [4]) (by kernel_rfl) (by simp) ?_
        refine AllReadyH.cons (o := { dst := some 15, op := Op.call { callee := Callee.value (Operand.func 117), args := #[Operand.tmp 14], argTypes := #[90] }, type := 4, pos := "l06_jar.go:18", after := #[{ on := 3, ground := Ground.data }], guard := none }) rfl (fun K hK => ?_) AllReadyH.nil
        go_simp
        (go_at_call 117; refine (KC.out _).mono ?_; rintro e w2 ⟨rfl, hb2⟩; have x0 : w2.cell? ⟨g, k * 10, none⟩ = some (.string na) := ((bcell hb2).1 _ _ hgr).trans c0; have x1 : w2.cell? ⟨g, k * 10 + 1, none⟩ = some (.string va) := ((bcell hb2).1 _ _ hgr).trans c1; have x2 : w2.cell? ⟨g, k * 10 + 2, none⟩ = some (.string ho) := ((bcell hb2).1 _ _ hgr).trans c2; have x3 : w2.cell? ⟨g, k * 10 + 3, none⟩ = some (.bool al) := ((bcell hb2).1 _ _ hgr).trans c3; have x4 : w2.cell? ⟨g, k * 10 + 4, none⟩ = some (.string pa) := ((bcell hb2).1 _ _ hgr).trans c4; have x5 : w2.cell? ⟨g, k * 10 + 5, none⟩ = some (.bool se) := ((bcell hb2).1 _ _ hgr).trans c5; have x6 : w2.cell? ⟨g, k * 10 + 6, none⟩ = some (.int .i64 mo) := ((bcell hb2).1 _ _ hgr).trans c6; have x7 : w2.cell? ⟨g, k * 10 + 7, none⟩ = some (.string pt) := ((bcell hb2).1 _ _ hgr).trans c7; have x8 : w2.cell? ⟨g, k * 10 + 8, none⟩ = some (.int .i64 un) := ((bcell hb2).1 _ _ hgr).trans c8; have x9 : w2.cell? ⟨g, k * 10 + 9, none⟩ = some (.int .i64 ma) := ((bcell hb2).1 _ _ hgr).trans c9)
        try (go_wp2_with fail)
        refine hK.out _ _ ?_ (fun hH1 => ?_)
        · (try dsimp only)
          go_keep
        clear hK K hH0
        try simp only [Act.put, List.setIfInBounds_toArray, List.set_cons_zero, List.set_cons_succ]
        refine wpAnyH_take (i := 5) (oi := { dst := some 16, op := Op.unOp UnOp.not 4 (Operand.tmp 15), type := 4, pos := "l06_jar.go:18", after := #[{ on := 4, ground := Ground.data }], guard := none }) (v := ?va5) rfl (by kernel_rfl) (by kernel_rfl) (by kernel_rfl) (fun _ _ _ h => h) (Or.inl ⟨by rfl, ?hya5⟩) (by assumption) ?resta5
        case hya5 =>
          intro w hSw
          (try dsimp only at hSw)
          go_simp
          try with_reducible rfl
        try simp only [Act.put, List.setIfInBounds_toArray, List.set_cons_zero, List.set_cons_succ]
        refine wpAnyH_take (i := 6) (oi := { dst := some 17, op := Op.move (Operand.tmp 16), type := 4, pos := "l06_jar.go:18", after := #[{ on := 5, ground := Ground.data }, { on := 4, ground := Ground.chain }], guard := none }) (v := ?va6) rfl (by kernel_rfl) (by kernel_rfl) (by kernel_rfl) (fun _ _ _ h => h) (Or.inl ⟨by rfl, ?hya6⟩) (by assumption) ?resta6
        case hya6 =>
          intro w hSw
          (try dsimp only at hSw)
          go_simp
          try with_reducible rfl
        try simp only [Act.put, List.setIfInBounds_toArray, List.set_cons_zero, List.set_cons_succ]
        refine wpAnyH_take (i := 7) (oi := { dst := some 18, op := Op.move (Operand.tmp 3), type := 3, pos := "l06_jar.go:18", after := #[{ on := 6, ground := Ground.guard }], guard := some (6, false) }) (v := undef) rfl (by kernel_rfl) (by kernel_rfl) (by kernel_rfl) (fun _ _ _ h => h) (Or.inr ⟨by rfl, rfl⟩) (by assumption) ?_
        try simp only [Act.put, List.setIfInBounds_toArray, List.set_cons_zero, List.set_cons_succ]
        refine wpAnyH_take (i := 8) (oi := { dst := some 19, op := Op.binOp BinOp.gtr 3 (Operand.tmp 18) (Operand.const (Value.int IntKind.i64 0)) 3, type := 4, pos := "l06_jar.go:18", after := #[{ on := 7, ground := Ground.data }, { on := 6, ground := Ground.guard }], guard := some (6, false) }) (v := undef) rfl (by kernel_rfl) (by kernel_rfl) (by kernel_rfl) (fun _ _ _ h => h) (Or.inr ⟨by rfl, rfl⟩) (by assumption) ?_
        try simp only [Act.put, List.setIfInBounds_toArray, List.set_cons_zero, List.set_cons_succ]
        refine wpAnyH_take (i := 9) (oi := { dst := some 20, op := Op.move (Operand.tmp 19), type := 4, pos := "l06_jar.go:18", after := #[{ on := 8, ground := Ground.data }, { on := 6, ground := Ground.chain }, { on := 6, ground := Ground.guard }], guard := some (6, false) }) (v := undef) rfl (by kernel_rfl) (by kernel_rfl) (by kernel_rfl) (fun _ _ _ h => h) (Or.inr ⟨by rfl, rfl⟩) (by assumption) ?_
        try simp only [Act.put, List.setIfInBounds_toArray, List.set_cons_zero, List.set_cons_succ]
        refine wpAnyH_take (i := 10) (oi := { dst := some 21, op := Op.move (Operand.tmp 0), type := 43, pos := "l06_jar.go:18", after := #[{ on := 9, ground := Ground.guard }], guard := some (9, true) }) (v := undef) rfl (by kernel_rfl) (by kernel_rfl) (by kernel_rfl) (fun _ _ _ h => h) (Or.inr ⟨by rfl, rfl⟩) (by assumption) ?_
        try simp only [Act.put, List.setIfInBounds_toArray, List.set_cons_zero, List.set_cons_succ]
        refine wpAnyH_take (i := 11) (oi := { dst := some 22, op := Op.move (Operand.tmp 3), type := 3, pos := "l06_jar.go:18", after := #[{ on := 9, ground := Ground.guard }], guard := some (9, true) }) (v := undef) rfl (by kernel_rfl) (by kernel_rfl) (by kernel_rfl) (fun _ _ _ h => h) (Or.inr ⟨by rfl, rfl⟩) (by assumption) ?_
        try simp only [Act.put, List.setIfInBounds_toArray, List.set_cons_zero, List.set_cons_succ]
        refine wpAnyH_take (i := 12) (oi := { dst := some 23, op := Op.binOp BinOp.sub 3 (Operand.tmp 22) (Operand.const (Value.int IntKind.i64 1)) 3, type := 3, pos := "l06_jar.go:18", after := #[{ on := 11, ground := Ground.data }, { on := 9, ground := Ground.guard }], guard := some (9, true) }) (v := undef) rfl (by kernel_rfl) (by kernel_rfl) (by kernel_rfl) (fun _ _ _ h => h) (Or.inr ⟨by rfl, rfl⟩) (by assumption) ?_
        try simp only [Act.put, List.setIfInBounds_toArray, List.set_cons_zero, List.set_cons_succ]
        refine wpAnyH_take (i := 13) (oi := { dst := some 24, op := Op.indexAddr 43 (Operand.tmp 21) (Operand.tmp 23), type := 0, pos := "l06_jar.go:18", after := #[{ on := 10, ground := Ground.data }, { on := 12, ground := Ground.data }, { on := 9, ground := Ground.guard }], guard := some (9, true) }) (v := undef) rfl (by kernel_rfl) (by kernel_rfl) (by kernel_rfl) (fun _ _ _ h => h) (Or.inr ⟨by rfl, rfl⟩) (by assumption) ?_
        try simp only [Act.put, List.setIfInBounds_toArray, List.set_cons_zero, List.set_cons_succ]
        refine wpAnyH_take (i := 14) (oi := { dst := some 25, op := Op.fieldAddr 90 (Operand.tmp 24) 9, type := 0, pos := "l06_jar.go:18", after := #[{ on := 13, ground := Ground.data }, { on := 9, ground := Ground.guard }], guard := some (9, true) }) (v := undef) rfl (by kernel_rfl) (by kernel_rfl) (by kernel_rfl) (fun _ _ _ h => h) (Or.inr ⟨by rfl, rfl⟩) (by assumption) ?_
        try simp only [Act.put, List.setIfInBounds_toArray, List.set_cons_zero, List.set_cons_succ]
        refine wpAnyH_take (i := 15) (oi := { dst := some 26, op := Op.load 2 (Operand.tmp 25), type := 2, pos := "l06_jar.go:18", after := #[{ on := 14, ground := Ground.data }, { on := 9, ground := Ground.guard }], guard := some (9, true) }) (v := undef) rfl (by kernel_rfl) (by kernel_rfl) (by kernel_rfl) (fun _ _ _ h => h) (Or.inr ⟨by rfl, rfl⟩) (by assumption) ?_
        try simp only [Act.put, List.setIfInBounds_toArray, List.set_cons_zero, List.set_cons_succ]
        refine wpAnyH_take (i := 16) (oi := { dst := some 27, op := Op.move (Operand.tmp 0), type := 43, pos := "l06_jar.go:18", after := #[{ on := 9, ground := Ground.guard }], guard := some (9, true) }) (v := undef) rfl (by kernel_rfl) (by kernel_rfl) (by kernel_rfl) (fun _ _ _ h => h) (Or.inr ⟨by rfl, rfl⟩) (by assumption) ?_
        try simp only [Act.put, List.setIfInBounds_toArray, List.set_cons_zero, List.set_cons_succ]
        refine wpAnyH_take (i := 17) (oi := { dst := some 28, op := Op.move (Operand.tmp 3), type := 3, pos := "l06_jar.go:18", after := #[{ on := 9, ground := Ground.guard }], guard := some (9, true) }) (v := undef) rfl (by kernel_rfl) (by kernel_rfl) (by kernel_rfl) (fun _ _ _ h => h) (Or.inr ⟨by rfl, rfl⟩) (by assumption) ?_
        try simp only [Act.put, List.setIfInBounds_toArray, List.set_cons_zero, List.set_cons_succ]
        refine wpAnyH_take (i := 18) (oi := { dst := some 29, op := Op.indexAddr 43 (Operand.tmp 27) (Operand.tmp 28), type := 0, pos := "l06_jar.go:18", after := #[{ on := 16, ground := Ground.data }, { on := 17, ground := Ground.data }, { on := 9, ground := Ground.guard }], guard := some (9, true) }) (v := undef) rfl (by kernel_rfl) (by kernel_rfl) (by kernel_rfl) (fun _ _ _ h => h) (Or.inr ⟨by rfl, rfl⟩) (by assumption) ?_
        try simp only [Act.put, List.setIfInBounds_toArray, List.set_cons_zero, List.set_cons_succ]
        refine wpAnyH_take (i := 19) (oi := { dst := some 30, op := Op.fieldAddr 90 (Operand.tmp 29) 9, type := 0, pos := "l06_jar.go:18", after := #[{ on := 18, ground := Ground.data }, { on := 9, ground := Ground.guard }], guard := some (9, true) }) (v := undef) rfl (by kernel_rfl) (by kernel_rfl) (by kernel_rfl) (fun _ _ _ h => h) (Or.inr ⟨by rfl, rfl⟩) (by assumption) ?_
        try simp only [Act.put, List.setIfInBounds_toArray, List.set_cons_zero, List.set_cons_succ]
        refine wpAnyH_take (i := 20) (oi := { dst := some 31, op := Op.load 2 (Operand.tmp 30), type := 2, pos := "l06_jar.go:18", after := #[{ on := 19, ground := Ground.data }, { on := 9, ground := Ground.guard }], guard := some (9, true) }) (v := undef) rfl (by kernel_rfl) (by kernel_rfl) (by kernel_rfl) (fun _ _ _ h => h) (Or.inr ⟨by rfl, rfl⟩) (by assumption) ?_
        try simp only [Act.put, List.setIfInBounds_toArray, List.set_cons_zero, List.set_cons_succ]
        refine wpAnyH_take (i := 21) (oi := { dst := some 32, op := Op.binOp BinOp.geq 2 (Operand.tmp 26) (Operand.tmp 31) 2, type := 4, pos := "l06_jar.go:18", after := #[{ on := 15, ground := Ground.data }, { on := 20, ground := Ground.data }, { on := 9, ground := Ground.guard }], guard := some (9, true) }) (v := undef) rfl (by kernel_rfl) (by kernel_rfl) (by kernel_rfl) (fun _ _ _ h => h) (Or.inr ⟨by rfl, rfl⟩) (by assumption) ?_
        try simp only [Act.put, List.setIfInBounds_toArray, List.set_cons_zero, List.set_cons_succ]
        refine wpAnyH_take (i := 22) (oi := { dst := some 33, op := Op.pick (Operand.tmp 20) (Operand.tmp 32) (Operand.const (Value.bool false)), type := 4, pos := "l06_jar.go:18", after := #[{ on := 9, ground := Ground.data }, { on := 21, ground := Ground.data }, { on := 6, ground := Ground.guard }], guard := some (6, false) }) (v := undef) rfl (by kernel_rfl) (by kernel_rfl) (by kernel_rfl) (fun _ _ _ h => h) (Or.inr ⟨by rfl, rfl⟩) (by assumption) ?_
        try simp only [Act.put, List.setIfInBounds_toArray, List.set_cons_zero, List.set_cons_succ]
        refine wpAnyH_take (i := 23) (oi := { dst := some 34, op := Op.pick (Operand.tmp 17) (Operand.const (Value.bool true)) (Operand.tmp 33), type := 4, pos := "l06_jar.go:18", after := #[{ on := 6, ground := Ground.data }, { on := 22, ground := Ground.data }], guard := none }) (v := ?va23) rfl (by kernel_rfl) (by kernel_rfl) (by kernel_rfl) (fun _ _ _ h => h) (Or.inl ⟨by rfl, ?hya23⟩) (by assumption) ?resta23
        case hya23 =>
          intro w hSw
          (try dsimp only at hSw)
          go_simp
          try with_reducible rfl
        try simp only [Act.put, List.setIfInBounds_toArray, List.set_cons_zero, List.set_cons_succ]
        refine wpAnyH_done (by kernel_rfl) ?_ _
        go_wp2
        go_ret
        exact ⟨ret_bool HQ.out.symm, (HB.out.trans (Below.drew (Below.refl _ _))).trans (hb2.mono HB.out.size)⟩
      | true =>
        have HKY1 := HKY.out rfl
        clear HKN HKY
        cases k with
        | zero =>
          have HKY : Hid ((∀ i, i < 0 → sameK (atC L i) (atC L 0) = false) → okJ L 0 = true) := HKY1 (.inl rfl)
          clear HKY1 HSN
          rw [Nat.zero_mul] at c0 c1 c2 c3 c4 c5 c6 c7 c8 c9
          rw [Nat.zero_add] at c1
          rw [Nat.zero_add] at c2
          rw [Nat.zero_add] at c3
          rw [Nat.zero_add] at c4
          rw [Nat.zero_add] at c5
          rw [Nat.zero_add] at c6
          rw [Nat.zero_add] at c7
          rw [Nat.zero_add] at c8
          rw [Nat.zero_add] at c9
          generalize atC L 0 = y at *
          obtain ⟨na, va, ho, al, pa, se, mo, pt, un, ma⟩ := y
          unfold ckV at KC0
          dsimp only at *
          have KC : Hid (∀ W, Calls Tryd.prog 117 #[.agg #[.string na, .string va, .string ho, .bool al, .string pa, .bool se, .int .i64 mo, .string pt, .int .i64 un, .int .i64 ma]] W fun e w' => e = .returned (.bool true) ∧ Below W.heap.size W w') := KC0
          clear KC0
          have q2 : decide ((0 : Int) < ((0 : Nat) : Int)) = false := by decide
          go_wp2_with fail
          refine wp_region_held_drew (S := (fun w' => w'.cell? ⟨g, 0, none⟩ = some (.string na) ∧ w'.cell? ⟨g, 1, none⟩ = some (.string va) ∧ w'.cell? ⟨g, 2, none⟩ = some (.string ho) ∧ w'.cell? ⟨g, 3, none⟩ = some (.bool al) ∧ w'.cell? ⟨g, 4, none⟩ = some (.string pa) ∧ w'.cell? ⟨g, 5, none⟩ = some (.bool se) ∧ w'.cell? ⟨g, 6, none⟩ = some (.int .i64 mo) ∧ w'.cell? ⟨g, 7, none⟩ = some (.string pt) ∧ w'.cell? ⟨g, 8, none⟩ = some (.int .i64 un) ∧ w'.cell? ⟨g, 9, none⟩ = some (.int .i64 ma))) (by kernel_rfl) ?_ (fun hH0 => ?_)
          · (try dsimp only)
            go_keep
          refine wpAnyH_take (i := 0) (oi := { dst := some 11, op := Op.move (Operand.tmp 0), type := 43, pos := "l06_jar.go:18", after := #[], guard := none }) (v := ?vb0) rfl (by kernel_rfl) (by kernel_rfl) (by kernel_rfl) (fun _ _ _ h => h) (Or.inl ⟨by rfl, ?hyb0⟩) (by assumption) ?restb0
          case hyb0 =>
            intro w hSw
            (try dsimp only at hSw)
            go_simp
            try with_reducible rfl
          try simp only [Act.put, List.setIfInBounds_toArray, List.set_cons_zero, List.set_cons_succ]
          refine wpAnyH_take (i := 1) (oi := { dst := some 12, op := Op.move (Operand.tmp 3), type := 3, pos := "l06_jar.go:18", after := #[], guard := none }) (v := ?vb1) rfl (by kernel_rfl) (by kernel_rfl) (by kernel_rfl) (fun _ _ _ h => h) (Or.inl ⟨by rfl, ?hyb1⟩) (by assumption) ?restb1
          case hyb1 =>
            intro w hSw
            (try dsimp only at hSw)
            go_simp
            try with_reducible rfl
          try simp only [Act.put, List.setIfInBounds_toArray, List.set_cons_zero, List.set_cons_succ]
          refine wpAnyH_take (i := 2) (oi := { dst := some 13, op := Op.indexAddr 43 (Operand.tmp 11) (Operand.tmp 12), type := 0, pos := "l06_jar.go:18", after := #[{ on := 0, ground := Ground.data }, { on := 1, ground := Ground.data }], guard := none }) (v := ?vb2) rfl (by kernel_rfl) (by kernel_rfl) (by kernel_rfl) (fun _ _ _ h => h) (Or.inl ⟨by rfl, ?hyb2⟩) (by assumption) ?restb2
          case hyb2 =>
            intro w hSw
            (try dsimp only at hSw)
            go_simp
            try with_reducible rfl
          try simp only [Act.put, List.setIfInBounds_toArray, List.set_cons_zero, List.set_cons_succ]
          refine wpAnyH_take (i := 3) (oi := { dst := some 14, op := Op.load 90 (Operand.tmp 13), type := 90, pos := "l06_jar.go:18", after := #[{ on := 2, ground := Ground.data }], guard := none }) (v := ?vb3) rfl (by kernel_rfl) (by kernel_rfl) (by kernel_rfl) (fun _ _ _ h => h) (Or.inl ⟨by rfl, ?hyb3⟩) (by assumption) ?restb3
          case hyb3 =>
            intro w hSw
            (try dsimp only at hSw)
            go_simp
            try with_reducible rfl
          try simp only [Act.put, List.setIfInBounds_toArray, List.set_cons_zero, List.set_cons_succ]
          refine wpAnyH_ready (rs := [4]) (by kernel_rfl) (by simp) ?_
          refine AllReadyH.cons (o := { dst := some 15, op := Op.call { callee := Callee.value (Operand.func 117), args := #[Operand.tmp 14], argTypes := #[90] }, type := 4, pos := "l06_jar.go:18", after := #[{ on := 3, ground := Ground.data }], guard := none }) rfl (fun K hK => ?_) AllReadyH.nil
          go_simp
          (go_at_call 117; refine (KC.out _).mono ?_; rintro e w2 ⟨rfl, hb2⟩; have x0 : w2.cell? ⟨g, 0, none⟩ = some (.string na) := ((bcell hb2).1 _ _ hgr).trans c0; have x1 : w2.cell? ⟨g, 1, none⟩ = some (.string va) := ((bcell hb2).1 _ _ hgr).trans c1; have x2 : w2.cell? ⟨g, 2, none⟩ = some (.string ho) := ((bcell hb2).1 _ _ hgr).trans c2; have x3 : w2.cell? ⟨g, 3, none⟩ = some (.bool al) := ((bcell hb2).1 _ _ hgr).trans c3; have x4 : w2.cell? ⟨g, 4, none⟩ = some (.string pa) := ((bcell hb2).1 _ _ hgr).trans c4; have x5 : w2.cell? ⟨g, 5, none⟩ = some (.bool se) := ((bcell hb2).1 _ _ hgr).trans c5; have x6 : w2.cell? ⟨g, 6, none⟩ = some (.int .i64 mo) := ((bcell hb2).1 _ _ hgr).trans c6; have x7 : w2.cell? ⟨g, 7, none⟩ = some (.string pt) := ((bcell hb2).1 _ _ hgr).trans c7; have x8 : w2.cell? ⟨g, 8, none⟩ = some (.int .i64 un) := ((bcell hb2).1 _ _ hgr).trans c8; have x9 : w2.cell? ⟨g, 9, none⟩ = some (.int .i64 ma) := ((bcell hb2).1 _ _ hgr).trans c9)
          try (go_wp2_with fail)
          refine hK.out _ _ ?_ (fun hH1 => ?_)
          · (try dsimp only)
            go_keep
          clear hK K hH0
          try simp only [Act.put, List.setIfInBounds_toArray, List.set_cons_zero, List.set_cons_succ]
          refine wpAnyH_take (i := 5) (oi := { dst := some 16, op := Op.unOp UnOp.not 4 (Operand.tmp 15), type := 4, pos := "l06_jar.go:18", after := #[{ on := 4, ground := Ground.data }], guard := none }) (v := ?vb5) rfl (by kernel_rfl) (by kernel_rfl) (by kernel_rfl) (fun _ _ _ h => h) (Or.inl ⟨by rfl, ?hyb5⟩) (by assumption) ?restb5
          case hyb5 =>
            intro w hSw
            (try dsimp only at hSw)
            go_simp
            try with_reducible rfl
          try simp only [Act.put, List.setIfInBounds_toArray, List.set_cons_zero, List.set_cons_succ]
          refine wpAnyH_take (i := 6) (oi := { dst := some 17, op := Op.move (Operand.tmp 16), type := 4, pos := "l06_jar.go:18", after := #[{ on := 5, ground := Ground.data }, { on := 4, ground := Ground.chain }], guard := none }) (v := ?vb6) rfl (by kernel_rfl) (by kernel_rfl) (by kernel_rfl) (fun _ _ _ h => h) (Or.inl ⟨by rfl, ?hyb6⟩) (by assumption) ?restb6
          case hyb6 =>
            intro w hSw
            (try dsimp only at hSw)
            go_simp
            try with_reducible rfl
          try simp only [Act.put, List.setIfInBounds_toArray, List.set_cons_zero, List.set_cons_succ]
          refine wpAnyH_take (i := 7) (oi := { dst := some 18, op := Op.move (Operand.tmp 3), type := 3, pos := "l06_jar.go:18", after := #[{ on := 6, ground := Ground.guard }], guard := some (6, false) }) (v := ?vb7) rfl (by kernel_rfl) (by kernel_rfl) (by kernel_rfl) (fun _ _ _ h => h) (Or.inl ⟨by rfl, ?hyb7⟩) (by assumption) ?restb7
          case hyb7 =>
            intro w hSw
            (try dsimp only at hSw)
            go_simp
            try with_reducible rfl
          try simp only [Act.put, List.setIfInBounds_toArray, List.set_cons_zero, List.set_cons_succ]
          refine wpAnyH_take (i := 8) (oi := { dst := some 19, op := Op.binOp BinOp.gtr 3 (Operand.tmp 18) (Operand.const (Value.int IntKind.i64 0)) 3, type := 4, pos := "l06_jar.go:18", after := #[{ on := 7, ground := Ground.data }, { on := 6, ground := Ground.guard }], guard := some (6, false) }) (v := ?vb8) rfl (by kernel_rfl) (by kernel_rfl) (by kernel_rfl) (fun _ _ _ h => h) (Or.inl ⟨by rfl, ?hyb8⟩) (by assumption) ?restb8
          case hyb8 =>
            intro w hSw
            (try dsimp only at hSw)
            go_simp
            try with_reducible rfl
          try simp only [Act.put, List.setIfInBounds_toArray, List.set_cons_zero, List.set_cons_succ]
          refine wpAnyH_take (i := 9) (oi := { dst := some 20, op := Op.move (Operand.tmp 19), type := 4, pos := "l06_jar.go:18", after := #[{ on := 8, ground := Ground.data }, { on := 6, ground := Ground.chain }, { on := 6, ground := Ground.guard }], guard := some (6, false) }) (v := ?vb9) rfl (by kernel_rfl) (by kernel_rfl) (by kernel_rfl) (fun _ _ _ h => h) (Or.inl ⟨by rfl, ?hyb9⟩) (by assumption) ?restb9
          case hyb9 =>
            intro w hSw
            (try dsimp only at hSw)
            go_simp
            try with_reducible rfl
          try simp only [Act.put, List.setIfInBounds_toArray, List.set_cons_zero, List.set_cons_succ]
          refine wpAnyH_take (i := 10) (oi := { dst := some 21, op := Op.move (Operand.tmp 0), type := 43, pos := "l06_jar.go:18", after := #[{ on := 9, ground := Ground.guard }], guard := some (9, true) }) (v := undef) rfl (by kernel_rfl) (by kernel_rfl) (by kernel_rfl) (fun _ _ _ h => h) (Or.inr ⟨by rfl, rfl⟩) (by assumption) ?_
          try simp only [Act.put, List.setIfInBounds_toArray, List.set_cons_zero, List.set_cons_succ]
          refine wpAnyH_take (i := 11) (oi := { dst := some 22, op := Op.move (Operand.tmp 3), type := 3, pos := "l06_jar.go:18", after := #[{ on := 9, ground := Ground.guard }], guard := some (9, true) }) (v := undef) rfl (by kernel_rfl) (by kernel_rfl) (by kernel_rfl) (fun _ _ _ h => h) (Or.inr ⟨by rfl, rfl⟩) (by assumption) ?_
          try simp only [Act.put, List.setIfInBounds_toArray, List.set_cons_zero, List.set_cons_succ]
          refine wpAnyH_take (i := 12) (oi := { dst := some 23, op := Op.binOp BinOp.sub 3 (Operand.tmp 22) (Operand.const (Value.int IntKind.i64 1)) 3, type := 3, pos := "l06_jar.go:18", after := #[{ on := 11, ground := Ground.data }, { on := 9, ground := Ground.guard }], guard := some (9, true) }) (v := undef) rfl (by kernel_rfl) (by kernel_rfl) (by kernel_rfl) (fun _ _ _ h => h) (Or.inr ⟨by rfl, rfl⟩) (by assumption) ?_
          try simp only [Act.put, List.setIfInBounds_toArray, List.set_cons_zero, List.set_cons_succ]
          refine wpAnyH_take (i := 13) (oi := { dst := some 24, op := Op.indexAddr 43 (Operand.tmp 21) (Operand.tmp 23), type := 0, pos := "l06_jar.go:18", after := #[{ on := 10, ground := Ground.data }, { on := 12, ground := Ground.data }, { on := 9, ground := Ground.guard }], guard := some (9, true) }) (v := undef) rfl (by kernel_rfl) (by kernel_rfl) (by kernel_rfl) (fun _ _ _ h => h) (Or.inr ⟨by rfl, rfl⟩) (by assumption) ?_
          try simp only [Act.put, List.setIfInBounds_toArray, List.set_cons_zero, List.set_cons_succ]
          refine wpAnyH_take (i := 14) (oi := { dst := some 25, op := Op.fieldAddr 90 (Operand.tmp 24) 9, type := 0, pos := "l06_jar.go:18", after := #[{ on := 13, ground := Ground.data }, { on := 9, ground := Ground.guard }], guard := some (9, true) }) (v := undef) rfl (by kernel_rfl) (by kernel_rfl) (by kernel_rfl) (fun _ _ _ h => h) (Or.inr ⟨by rfl, rfl⟩) (by assumption) ?_
          try simp only [Act.put, List.setIfInBounds_toArray, List.set_cons_zero, List.set_cons_succ]
          refine wpAnyH_take (i := 15) (oi := { dst := some 26, op := Op.load 2 (Operand.tmp 25), type := 2, pos := "l06_jar.go:18", after := #[{ on := 14, ground := Ground.data }, { on := 9, ground := Ground.guard }], guard := some (9, true) }) (v := undef) rfl (by kernel_rfl) (by kernel_rfl) (by kernel_rfl) (fun _ _ _ h => h) (Or.inr ⟨by rfl, rfl⟩) (by assumption) ?_
          try simp only [Act.put, List.setIfInBounds_toArray, List.set_cons_zero, List.set_cons_succ]
          refine wpAnyH_take (i := 16) (oi := { dst := some 27, op := Op.move (Operand.tmp 0), type := 43, pos := "l06_jar.go:18", after := #[{ on := 9, ground := Ground.guard }], guard := some (9, true) }) (v := undef) rfl (by kernel_rfl) (by kernel_rfl) (by kernel_rfl) (fun _ _ _ h => h) (Or.inr ⟨by rfl, rfl⟩) (by assumption) ?_
          try simp only [Act.put, List.setIfInBounds_toArray, List.set_cons_zero, List.set_cons_succ]
          refine wpAnyH_take (i := 17) (oi := { dst := some 28, op := Op.move (Operand.tmp 3), type := 3, pos := "l06_jar.go:18", after := #[{ on := 9, ground := Ground.guard }], guard := some (9, true) }) (v := undef) rfl (by kernel_rfl) (by kernel_rfl) (by kernel_rfl) (fun _ _ _ h => h) (Or.inr ⟨by rfl, rfl⟩) (by assumption) ?_
          try simp only [Act.put, List.setIfInBounds_toArray, List.set_cons_zero, List.set_cons_succ]
          refine wpAnyH_take (i := 18) (oi := { dst := some 29, op := Op.indexAddr 43 (Operand.tmp 27) (Operand.tmp 28), type := 0, pos := "l06_jar.go:18", after := #[{ on := 16, ground := Ground.data }, { on := 17, ground := Ground.data }, { on := 9, ground := Ground.guard }], guard := some (9, true) }) (v := undef) rfl (by kernel_rfl) (by kernel_rfl) (by kernel_rfl) (fun _ _ _ h => h) (Or.inr ⟨by rfl, rfl⟩) (by assumption) ?_
          try simp only [Act.put, List.setIfInBounds_toArray, List.set_cons_zero, List.set_cons_succ]
          refine wpAnyH_take (i := 19) (oi := { dst := some 30, op := Op.fieldAddr 90 (Operand.tmp 29) 9, type := 0, pos := "l06_jar.go:18", after := #[{ on := 18, ground := Ground.data }, { on := 9, ground := Ground.guard }], guard := some (9, true) }) (v := undef) rfl (by kernel_rfl) (by kernel_rfl) (by kernel_rfl) (fun _ _ _ h => h) (Or.inr ⟨by rfl, rfl⟩) (by assumption) ?_
          try simp only [Act.put, List.setIfInBounds_toArray, List.set_cons_zero, List.set_cons_succ]
          refine wpAnyH_take (i := 20) (oi := { dst := some 31, op := Op.load 2 (Operand.tmp 30), type := 2, pos := "l06_jar.go:18", after := #[{ on := 19, ground := Ground.data }, { on := 9, ground := Ground.guard }], guard := some (9, true) }) (v := undef) rfl (by kernel_rfl) (by kernel_rfl) (by kernel_rfl) (fun _ _ _ h => h) (Or.inr ⟨by rfl, rfl⟩) (by assumption) ?_
          try simp only [Act.put, List.setIfInBounds_toArray, List.set_cons_zero, List.set_cons_succ]
          refine wpAnyH_take (i := 21) (oi := { dst := some 32, op := Op.binOp BinOp.geq 2 (Operand.tmp 26) (Operand.tmp 31) 2, type := 4, pos := "l06_jar.go:18", after := #[{ on := 15, ground := Ground.data }, { on := 20, ground := Ground.data }, { on := 9, ground := Ground.guard }], guard := some (9, true) }) (v := undef) rfl (by kernel_rfl) (by kernel_rfl) (by kernel_rfl) (fun _ _ _ h => h) (Or.inr ⟨by rfl, rfl⟩) (by assumption) ?_
          try simp only [Act.put, List.setIfInBounds_toArray, List.set_cons_zero, List.set_cons_succ]
          refine wpAnyH_take (i := 22) (oi := { dst := some 33, op := Op.pick (Operand.tmp 20) (Operand.tmp 32) (Operand.const (Value.bool false)), type := 4, pos := "l06_jar.go:18", after := #[{ on := 9, ground := Ground.data }, { on := 21, ground := Ground.data }, { on := 6, ground := Ground.guard }], guard := some (6, false) }) (v := ?vb22) rfl (by kernel_rfl) (by kernel_rfl) (by kernel_rfl) (fun _ _ _ h => h) (Or.inl ⟨by rfl, ?hyb22⟩) (by assumption) ?restb22
          case hyb22 =>
            intro w hSw
            (try dsimp only at hSw)
            go_simp
            try with_reducible rfl
          try simp only [Act.put, List.setIfInBounds_toArray, List.set_cons_zero, List.set_cons_succ]
          refine wpAnyH_take (i := 23) (oi := { dst := some 34, op := Op.pick (Operand.tmp 17) (Operand.const (Value.bool true)) (Operand.tmp 33), type := 4, pos := "l06_jar.go:18", after := #[{ on := 6, ground := Ground.data }, { on := 22, ground := Ground.data }], guard := none }) (v := ?vb23) rfl (by kernel_rfl) (by kernel_rfl) (by kernel_rfl) (fun _ _ _ h => h) (Or.inl ⟨by rfl, ?hyb23⟩) (by assumption) ?restb23
          case hyb23 =>
            intro w hSw
            (try dsimp only at hSw)
            go_simp
            try with_reducible rfl
          try simp only [Act.put, List.setIfInBounds_toArray, List.set_cons_zero, List.set_cons_succ]
          refine wpAnyH_done (by kernel_rfl) ?_ _
          have B2 : Hid (Below w.heap.size w w2) := (HB.out.trans (Below.drew (Below.refl _ _))).trans (hb2.mono HB.out.size)
          have hg2 : g < w2.heap.size := Nat.lt_of_lt_of_le hgr (Nat.le_trans (Below.drew (Below.refl wr.heap.size wr)).size hb2.size)
          clear hb2
          go_wp2
          go_loopw [4] (fun i w3 => ∃ j : Nat, j ≤ 0 ∧ i = .int .i64 j ∧ Hid (Below w2.heap.size w2 w3) ∧ Hid (∀ i', i' < j → sameK (atC L i') ⟨na, va, ho, al, pa, se, mo, pt, un, ma⟩ = false)) (fun i _ => 0 - (intOf i).toNat)
          case atStart => exact ⟨0, Nat.zero_le _, rfl, Below.refl _ _, fun j hj => absurd hj (by omega)⟩
          case round =>
            obtain ⟨j, hj, rfl, HB3, HR3⟩ := hrel
            obtain rfl : j = 0 := by omega
            have HK2 : Hid (okJ L 0 = true) := HKY.out (fun k hk => absurd hk (by omega))
            go_wp2
            go_roundw
            case rel => exact ⟨1, by omega, by go_num, B2.out.trans (HB3.out.mono B2.out.size), okJ_succ (k := 0) (fun i hi => absurd hi (by omega)) HK2.out⟩
            case measure => simp [intOf]; omega
        | succ m =>
          have cm0 : wr.cell? ⟨g, m * 10 + 9, none⟩ = some (.int .i64 (atC L m).ma) := by rw [(bcell HB.out).1 _ _ hgw]; exact HC.out m (by omega) 9 (by omega)
          have HMN : Hid (¬ (atC L m).ma < (atC L (m + 1)).ma → R = false) := fun e => HN.out (m + 1) hlt (okJ_made e)
          have HKY2 : Hid ((atC L m).ma < (atC L (m + 1)).ma → (∀ i, i < m + 1 → sameK (atC L i) (atC L (m + 1)) = false) → okJ L (m + 1) = true) := fun a => HKY1 (.inr a)
          clear HKY1
          generalize hpm : (atC L m).ma = pm at *
          clear hpm
          have q2 : decide ((0 : Int) < ((m : Int) + 1)) = true := by rw [decide_eq_true_iff]; omega
          have hw1 : IntKind.i64.wrap ((m : Int) + 1 - 1) = m := by
            rw [IntKind.wrap_i64]; omega
          have hw2 : IntKind.i64.wrap (m : Int) = m := by rw [IntKind.wrap_i64]; omega
          have p0 : (0 : Int) ≤ (m : Int) + 1 := by omega
          have p1 : (m : Int) + 1 < L.length := by omega
          have m0 : (0 : Int) ≤ m := by omega
          have m1 : (m : Int) < L.length := by omega
          generalize atC L (m + 1) = y at *
          obtain ⟨na, va, ho, al, pa, se, mo, pt, un, ma⟩ := y
          unfold ckV at KC0
          dsimp only at *
          have KC : Hid (∀ W, Calls Tryd.prog 117 #[.agg #[.string na, .string va, .string ho, .bool al, .string pa, .bool se, .int .i64 mo, .string pt, .int .i64 un, .int .i64 ma]] W fun e w' => e = .returned (.bool true) ∧ Below W.heap.size W w') := KC0
          have cm : wr.cell? ⟨g, m * 10 + 9, none⟩ = some (.int .i64 pm) := cm0
          clear KC0 cm0
          by_cases hlm : pm < ma
          · have qg : decide (ma ≤ pm) = false := by rw [decide_eq_false_iff_not]; omega
            have HKY : Hid ((∀ i, i < m + 1 → sameK (atC L i) ⟨na, va, ho, al, pa, se, mo, pt, un, ma⟩ = false) → okJ L (m + 1) = true) := HKY2.out hlm
            clear HKY2 HMN
            go_wp2_with fail
            refine wp_region_held_drew (S := (fun w' => w'.cell? ⟨g, (m + 1) * 10, none⟩ = some (.string na) ∧ w'.cell? ⟨g, (m + 1) * 10 + 1, none⟩ = some (.string va) ∧ w'.cell? ⟨g, (m + 1) * 10 + 2, none⟩ = some (.string ho) ∧ w'.cell? ⟨g, (m + 1) * 10 + 3, none⟩ = some (.bool al) ∧ w'.cell? ⟨g, (m + 1) * 10 + 4, none⟩ = some (.string pa) ∧ w'.cell? ⟨g, (m + 1) * 10 + 5, none⟩ = some (.bool se) ∧ w'.cell? ⟨g, (m + 1) * 10 + 6, none⟩ = some (.int .i64 mo) ∧ w'.cell? ⟨g, (m + 1) * 10 + 7, none⟩ = some (.string pt) ∧ w'.cell? ⟨g, (m + 1) * 10 + 8, none⟩ = some (.int .i64 un) ∧ w'.cell? ⟨g, (m + 1) * 10 + 9, none⟩ = some (.int .i64 ma) ∧ w'.cell? ⟨g, m * 10 + 9, none⟩ = some (.int .i64 pm))) (by kernel_rfl) ?_ (fun hH0 => ?_)
            · (try dsimp only)
              go_keep
            refine wpAnyH_take (i := 0) (oi := { dst := some 11, op := Op.move (Operand.tmp 0), type := 43, pos := "l06_jar.go:18", after := #[], guard := none }) (v := ?vc0) rfl (by kernel_rfl) (by kernel_rfl) (by kernel_rfl) (fun _ _ _ h => h) (Or.inl ⟨by rfl, ?hyc0⟩) (by assumption) ?restc0
            case hyc0 =>
              intro w hSw
              (try dsimp only at hSw)
              go_simp
              try with_reducible rfl
            try simp only [Act.put, List.setIfInBounds_toArray, List.set_cons_zero, List.set_cons_succ]
            refine wpAnyH_take (i := 1) (oi := { dst := some 12, op := Op.move (Operand.tmp 3), type := 3, pos := "l06_jar.go:18", after := #[], guard := none }) (v := ?vc1) rfl (by kernel_rfl) (by kernel_rfl) (by kernel_rfl) (fun _ _ _ h => h) (Or.inl ⟨by rfl, ?hyc1⟩) (by assumption) ?restc1
            case hyc1 =>
              intro w hSw
              (try dsimp only at hSw)
              go_simp
              try with_reducible rfl
            try simp only [Act.put, List.setIfInBounds_toArray, List.set_cons_zero, List.set_cons_succ]
            refine wpAnyH_take (i := 2) (oi := { dst := some 13, op := Op.indexAddr 43 (Operand.tmp 11) (Operand.tmp 12), type := 0, pos := "l06_jar.go:18", after := #[{ on := 0, ground := Ground.data }, { on := 1, ground := Ground.data }], guard := none }) (v := ?vc2) rfl (by kernel_rfl) (by kernel_rfl) (by kernel_rfl) (fun _ _ _ h => h) (Or.inl ⟨by rfl, ?hyc2⟩) (by assumption) ?restc2
            case hyc2 =>
              intro w hSw
              (try dsimp only at hSw)
              go_simp
              try with_reducible rfl
            try simp only [Act.put, List.setIfInBounds_toArray, List.set_cons_zero, List.set_cons_succ]
            refine wpAnyH_take (i := 3) (oi := { dst := some 14, op := Op.load 90 (Operand.tmp 13), type := 90, pos := "l06_jar.go:18", after := #[{ on := 2, ground := Ground.data }], guard := none }) (v := ?vc3) rfl (by kernel_rfl) (by kernel_rfl) (by kernel_rfl) (fun _ _ _ h => h) (Or.inl ⟨by rfl, ?hyc3⟩) (by assumption) ?restc3
            case hyc3 =>
              intro w hSw
              (try dsimp only at hSw)
              go_simp
              try with_reducible rfl
            try simp only [Act.put, List.setIfInBounds_toArray, List.set_cons_zero, List.set_cons_succ]
            refine wpAnyH_ready (rs := [4]) (by kernel_rfl) (by simp) ?_
            refine AllReadyH.cons (o := { dst := some 15, op := Op.call { callee := Callee.value (Operand.func 117), args := #[Operand.tmp 14], argTypes := #[90] }, type := 4, pos := "l06_jar.go:18", after := #[{ on := 3, ground := Ground.data }], guard := none }) rfl (fun K hK => ?_) AllReadyH.nil
            go_simp
            (go_at_call 117; refine (KC.out _).mono ?_; rintro e w2 ⟨rfl, hb2⟩; have x0 : w2.cell? ⟨g, (m + 1) * 10, none⟩ = some (.string na) := ((bcell hb2).1 _ _ hgr).trans c0; have x1 : w2.cell? ⟨g, (m + 1) * 10 + 1, none⟩ = some (.string va) := ((bcell hb2).1 _ _ hgr).trans c1; have x2 : w2.cell? ⟨g, (m + 1) * 10 + 2, none⟩ = some (.string ho) := ((bcell hb2).1 _ _ hgr).trans c2; have x3 : w2.cell? ⟨g, (m + 1) * 10 + 3, none⟩ = some (.bool al) := ((bcell hb2).1 _ _ hgr).trans c3; have x4 : w2.cell? ⟨g, (m + 1) * 10 + 4, none⟩ = some (.string pa) := ((bcell hb2).1 _ _ hgr).trans c4; have x5 : w2.cell? ⟨g, (m + 1) * 10 + 5, none⟩ = some (.bool se) := ((bcell hb2).1 _ _ hgr).trans c5; have x6 : w2.cell? ⟨g, (m + 1) * 10 + 6, none⟩ = some (.int .i64 mo) := ((bcell hb2).1 _ _ hgr).trans c6; have x7 : w2.cell? ⟨g, (m + 1) * 10 + 7, none⟩ = some (.string pt) := ((bcell hb2).1 _ _ hgr).trans c7; have x8 : w2.cell? ⟨g, (m + 1) * 10 + 8, none⟩ = some (.int .i64 un) := ((bcell hb2).1 _ _ hgr).trans c8; have x9 : w2.cell? ⟨g, (m + 1) * 10 + 9, none⟩ = some (.int .i64 ma) := ((bcell hb2).1 _ _ hgr).trans c9; have xm : w2.cell? ⟨g, m * 10 + 9, none⟩ = some (.int .i64 pm) := ((bcell hb2).1 _ _ hgr).trans cm)
            try (go_wp2_with fail)
            refine hK.out _ _ ?_ (fun hH1 => ?_)
            · (try dsimp only)
              go_keep
            clear hK K hH0
            try simp only [Act.put, List.setIfInBounds_toArray, List.set_cons_zero, List.set_cons_succ]
            refine wpAnyH_take (i := 5) (oi := { dst := some 16, op := Op.unOp UnOp.not 4 (Operand.tmp 15), type := 4, pos := "l06_jar.go:18", after := #[{ on := 4, ground := Ground.data }], guard := none }) (v := ?vc5) rfl (by kernel_rfl) (by kernel_rfl) (by kernel_rfl) (fun _ _ _ h => h) (Or.inl ⟨by rfl, ?hyc5⟩) (by assumption) ?restc5
            case hyc5 =>
              intro w hSw
              (try dsimp only at hSw)
              go_simp
              try with_reducible rfl
            try simp only [Act.put, List.setIfInBounds_toArray, List.set_cons_zero, List.set_cons_succ]
            refine wpAnyH_take (i := 6) (oi := { dst := some 17, op := Op.move (Operand.tmp 16), type := 4, pos := "l06_jar.go:18", after := #[{ on := 5, ground := Ground.data }, { on := 4, ground := Ground.chain }], guard := none }) (v := ?vc6) rfl (by kernel_rfl) (by kernel_rfl) (by kernel_rfl) (fun _ _ _ h => h) (Or.inl ⟨by rfl, ?hyc6⟩) (by assumption) ?restc6
            case hyc6 =>
              intro w hSw
              (try dsimp only at hSw)
              go_simp
              try with_reducible rfl
            try simp only [Act.put, List.setIfInBounds_toArray, List.set_cons_zero, List.set_cons_succ]
            refine wpAnyH_take (i := 7) (oi := { dst := some 18, op := Op.move (Operand.tmp 3), type := 3, pos := "l06_jar.go:18", after := #[{ on := 6, ground := Ground.guard }], guard := some (6, false) }) (v := ?vc7) rfl (by kernel_rfl) (by kernel_rfl) (by kernel_rfl) (fun _ _ _ h => h) (Or.inl ⟨by rfl, ?hyc7⟩) (by assumption) ?restc7
            case hyc7 =>
              intro w hSw
              (try dsimp only at hSw)
              go_simp
              try with_reducible rfl
            try simp only [Act.put, List.setIfInBounds_toArray, List.set_cons_zero, List.set_cons_succ]
            refine wpAnyH_take (i := 8) (oi := { dst := some 19, op := Op.binOp BinOp.gtr 3 (Operand.tmp 18) (Operand.const (Value.int IntKind.i64 0)) 3, type := 4, pos := "l06_jar.go:18", after := #[{ on := 7, ground := Ground.data }, { on := 6, ground := Ground.guard }], guard := some (6, false) }) (v := ?vc8) rfl (by kernel_rfl) (by kernel_rfl) (by kernel_rfl) (fun _ _ _ h => h) (Or.inl ⟨by rfl, ?hyc8⟩) (by assumption) ?restc8
            case hyc8 =>
              intro w hSw
              (try dsimp only at hSw)
              go_simp
              try with_reducible rfl
            try simp only [Act.put, List.setIfInBounds_toArray, List.set_cons_zero, List.set_cons_succ]
            refine wpAnyH_take (i := 9) (oi := { dst := some 20, op := Op.move (Operand.tmp 19), type := 4, pos := "l06_jar.go:18", after := #[{ on := 8, ground := Ground.data }, { on := 6, ground := Ground.chain }, { on := 6, ground := Ground.guard }], guard := some (6, false) }) (v := ?vc9) rfl (by kernel_rfl) (by kernel_rfl) (by kernel_rfl) (fun _ _ _ h => h) (Or.inl ⟨by rfl, ?hyc9⟩) (by assumption) ?restc9
            case hyc9 =>
              intro w hSw
              (try dsimp only at hSw)
              go_simp
              try with_reducible rfl
            try simp only [Act.put, List.setIfInBounds_toArray, List.set_cons_zero, List.set_cons_succ]
            refine wpAnyH_take (i := 10) (oi := { dst := some 21, op := Op.move (Operand.tmp 0), type := 43, pos := "l06_jar.go:18", after := #[{ on := 9, ground := Ground.guard }], guard := some (9, true) }) (v := ?vc10) rfl (by kernel_rfl) (by kernel_rfl) (by kernel_rfl) (fun _ _ _ h => h) (Or.inl ⟨by rfl, ?hyc10⟩) (by assumption) ?restc10
            case hyc10 =>
              intro w hSw
              (try dsimp only at hSw)
              go_simp
              try with_reducible rfl
            try simp only [Act.put, List.setIfInBounds_toArray, List.set_cons_zero, List.set_cons_succ]
            refine wpAnyH_take (i := 11) (oi := { dst := some 22, op := Op.move (Operand.tmp 3), type := 3, pos := "l06_jar.go:18", after := #[{ on := 9, ground := Ground.guard }], guard := some (9, true) }) (v := ?vc11) rfl (by kernel_rfl) (by kernel_rfl) (by kernel_rfl) (fun _ _ _ h => h) (Or.inl ⟨by rfl, ?hyc11⟩) (by assumption) ?restc11
            case hyc11 =>
              intro w hSw
              (try dsimp only at hSw)
              go_simp
              try with_reducible rfl
            try simp only [Act.put, List.setIfInBounds_toArray, List.set_cons_zero, List.set_cons_succ]
            refine wpAnyH_take (i := 12) (oi := { dst := some 23, op := Op.binOp BinOp.sub 3 (Operand.tmp 22) (Operand.const (Value.int IntKind.i64 1)) 3, type := 3, pos := "l06_jar.go:18", after := #[{ on := 11, ground := Ground.data }, { on := 9, ground := Ground.guard }], guard := some (9, true) }) (v := ?vc12) rfl (by kernel_rfl) (by kernel_rfl) (by kernel_rfl) (fun _ _ _ h => h) (Or.inl ⟨by rfl, ?hyc12⟩) (by assumption) ?restc12
            case hyc12 =>
              intro w hSw
              (try dsimp only at hSw)
              go_simp
              try with_reducible rfl
            try simp only [Act.put, List.setIfInBounds_toArray, List.set_cons_zero, List.set_cons_succ]
            refine wpAnyH_take (i := 13) (oi := { dst := some 24, op := Op.indexAddr 43 (Operand.tmp 21) (Operand.tmp 23), type := 0, pos := "l06_jar.go:18", after := #[{ on := 10, ground := Ground.data }, { on := 12, ground := Ground.data }, { on := 9, ground := Ground.guard }], guard := some (9, true) }) (v := ?vc13) rfl (by kernel_rfl) (by kernel_rfl) (by kernel_rfl) (fun _ _ _ h => h) (Or.inl ⟨by rfl, ?hyc13⟩) (by assumption) ?restc13
            case hyc13 =>
              intro w hSw
              (try dsimp only at hSw)
              go_simp
              try with_reducible rfl
            try simp only [Act.put, List.setIfInBounds_toArray, List.set_cons_zero, List.set_cons_succ]
            refine wpAnyH_take (i := 14) (oi := { dst := some 25, op := Op.fieldAddr 90 (Operand.tmp 24) 9, type := 0, pos := "l06_jar.go:18", after := #[{ on := 13, ground := Ground.data }, { on := 9, ground := Ground.guard }], guard := some (9, true) }) (v := ?vc14) rfl (by kernel_rfl) (by kernel_rfl) (by kernel_rfl) (fun _ _ _ h => h) (Or.inl ⟨by rfl, ?hyc14⟩) (by assumption) ?restc14
            case hyc14 =>
              intro w hSw
              (try dsimp only at hSw)
              go_simp
              try with_reducible rfl
            try simp only [Act.put, List.setIfInBounds_toArray, List.set_cons_zero, List.set_cons_succ]
            refine wpAnyH_take (i := 15) (oi := { dst := some 26, op := Op.load 2 (Operand.tmp 25), type := 2, pos := "l06_jar.go:18", after := #[{ on := 14, ground := Ground.data }, { on := 9, ground := Ground.guard }], guard := some (9, true) }) (v := ?vc15) rfl (by kernel_rfl) (by kernel_rfl) (by kernel_rfl) (fun _ _ _ h => h) (Or.inl ⟨by rfl, ?hyc15⟩) (by assumption) ?restc15
            case hyc15 =>
              intro w hSw
              (try dsimp only at hSw)
              go_simp
              try with_reducible rfl
            try simp only [Act.put, List.setIfInBounds_toArray, List.set_cons_zero, List.set_cons_succ]
            refine wpAnyH_take (i := 16) (oi := { dst := some 27, op := Op.move (Operand.tmp 0), type := 43, pos := "l06_jar.go:18", after := #[{ on := 9, ground := Ground.guard }], guard := some (9, true) }) (v := ?vc16) rfl (by kernel_rfl) (by kernel_rfl) (by kernel_rfl) (fun _ _ _ h => h) (Or.inl ⟨by rfl, ?hyc16⟩) (by assumption) ?restc16
            case hyc16 =>
              intro w hSw
              (try dsimp only at hSw)
              go_simp
              try with_reducible rfl
            try simp only [Act.put, List.setIfInBounds_toArray, List.set_cons_zero, List.set_cons_succ]
            refine wpAnyH_take (i := 17) (oi := { dst := some 28, op := Op.move (Operand.tmp 3), type := 3, pos := "l06_jar.go:18", after := #[{ on := 9, ground := Ground.guard }], guard := some (9, true) }) (v := ?vc17) rfl (by kernel_rfl) (by kernel_rfl) (by kernel_rfl) (fun _ _ _ h => h) (Or.inl ⟨by rfl, ?hyc17⟩) (by assumption) ?restc17
            case hyc17 =>
              intro w hSw
              (try dsimp only at hSw)
              go_simp
              try with_reducible rfl
            try simp only [Act.put, List.setIfInBounds_toArray, List.set_cons_zero, List.set_cons_succ]
            refine wpAnyH_take (i := 18) (oi := { dst := some 29, op := Op.indexAddr 43 (Operand.tmp 27) (Operand.tmp 28), type := 0, pos := "l06_jar.go:18", after := #[{ on := 16, ground := Ground.data }, { on := 17, ground := Ground.data }, { on := 9, ground := Ground.guard }], guard := some (9, true) }) (v := ?vc18) rfl (by kernel_rfl) (by kernel_rfl) (by kernel_rfl) (fun _ _ _ h => h) (Or.inl ⟨by rfl, ?hyc18⟩) (by assumption) ?restc18
            case hyc18 =>
              intro w hSw
              (try dsimp only at hSw)
              go_simp
              try with_reducible rfl
            try simp only [Act.put, List.setIfInBounds_toArray, List.set_cons_zero, List.set_cons_succ]
            refine wpAnyH_take (i := 19) (oi := { dst := some 30, op := Op.fieldAddr 90 (Operand.tmp 29) 9, type := 0, pos := "l06_jar.go:18", after := #[{ on := 18, ground := Ground.data }, { on := 9, ground := Ground.guard }], guard := some (9, true) }) (v := ?vc19) rfl (by kernel_rfl) (by kernel_rfl) (by kernel_rfl) (fun _ _ _ h => h) (Or.inl ⟨by rfl, ?hyc19⟩) (by assumption) ?restc19
            case hyc19 =>
              intro w hSw
              (try dsimp only at hSw)
              go_simp
              try with_reducible rfl
            try simp only [Act.put, List.setIfInBounds_toArray, List.set_cons_zero, List.set_cons_succ]
            refine wpAnyH_take (i := 20) (oi := { dst := some 31, op := Op.load 2 (Operand.tmp 30), type := 2, pos := "l06_jar.go:18", after := #[{ on := 19, ground := Ground.data }, { on := 9, ground := Ground.guard }], guard := some (9, true) }) (v := ?vc20) rfl (by kernel_rfl) (by kernel_rfl) (by kernel_rfl) (fun _ _ _ h => h) (Or.inl ⟨by rfl, ?hyc20⟩) (by assumption) ?restc20
            case hyc20 =>
              intro w hSw
              (try dsimp only at hSw)
              go_simp
              try with_reducible rfl
            try simp only [Act.put, List.setIfInBounds_toArray, List.set_cons_zero, List.set_cons_succ]
            refine wpAnyH_take (i := 21) (oi := { dst := some 32, op := Op.binOp BinOp.geq 2 (Operand.tmp 26) (Operand.tmp 31) 2, type := 4, pos := "l06_jar.go:18", after := #[{ on := 15, ground := Ground.data }, { on := 20, ground := Ground.data }, { on := 9, ground := Ground.guard }], guard := some (9, true) }) (v := ?vc21) rfl (by kernel_rfl) (by kernel_rfl) (by kernel_rfl) (fun _ _ _ h => h) (Or.inl ⟨by rfl, ?hyc21⟩) (by assumption) ?restc21
            case hyc21 =>
              intro w hSw
              (try dsimp only at hSw)
              go_simp
              try with_reducible rfl
            try simp only [Act.put, List.setIfInBounds_toArray, List.set_cons_zero, List.set_cons_succ]
            refine wpAnyH_take (i := 22) (oi := { dst := some 33, op := Op.pick (Operand.tmp 20) (Operand.tmp 32) (Operand.const (Value.bool false)), type := 4, pos := "l06_jar.go:18", after := #[{ on := 9, ground := Ground.data }, { on := 21, ground := Ground.data }, { on := 6, ground := Ground.guard }], guard := some (6, false) }) (v := ?vc22) rfl (by kernel_rfl) (by kernel_rfl) (by kernel_rfl) (fun _ _ _ h => h) (Or.inl ⟨by rfl, ?hyc22⟩) (by assumption) ?restc22
            case hyc22 =>
              intro w hSw
              (try dsimp only at hSw)
              go_simp
              try with_reducible rfl
            try simp only [Act.put, List.setIfInBounds_toArray, List.set_cons_zero, List.set_cons_succ]
            refine wpAnyH_take (i := 23) (oi := { dst := some 34, op := Op.pick (Operand.tmp 17) (Operand.const (Value.bool true)) (Operand.tmp 33), type := 4, pos := "l06_jar.go:18", after := #[{ on := 6, ground := Ground.data }, { on := 22, ground := Ground.data }], guard := none }) (v := ?vc23) rfl (by kernel_rfl) (by kernel_rfl) (by kernel_rfl) (fun _ _ _ h => h) (Or.inl ⟨by rfl, ?hyc23⟩) (by assumption) ?restc23
            case hyc23 =>
              intro w hSw
              (try dsimp only at hSw)
              go_simp
              try with_reducible rfl
            try simp only [Act.put, List.setIfInBounds_toArray, List.set_cons_zero, List.set_cons_succ]
            refine wpAnyH_done (by kernel_rfl) ?_ _
            have B2 : Hid (Below w.heap.size w w2) := (HB.out.trans (Below.drew (Below.refl _ _))).trans (hb2.mono HB.out.size)
            have hg2 : g < w2.heap.size := Nat.lt_of_lt_of_le hgr (Nat.le_trans (Below.drew (Below.refl wr.heap.size wr)).size hb2.size)
            clear hb2
            go_wp2
            go_loopw [4] (fun i w3 => ∃ j : Nat, j ≤ (m + 1) ∧ i = .int .i64 j ∧ Hid (Below w2.heap.size w2 w3) ∧ Hid (∀ i', i' < j → sameK (atC L i') ⟨na, va, ho, al, pa, se, mo, pt, un, ma⟩ = false)) (fun i _ => (m + 1) - (intOf i).toNat)
            case atStart => exact ⟨0, Nat.zero_le _, rfl, Below.refl _ _, fun j hj => absurd hj (by omega)⟩
            case round =>
              obtain ⟨j, hj, rfl, HB3, HR3⟩ := hrel
              by_cases hjl : j < m + 1
              · have j0 : (0 : Int) ≤ j := by omega
                have j1 : (j : Int) < L.length := by omega
                have j2 : (j : Int) < (m : Int) + 1 := by omega
                have hg3 : g < wr.heap.size := Nat.lt_of_lt_of_le hg2 HB3.out.size
                have y0 : wr.cell? ⟨g, (m + 1) * 10, none⟩ = some (.string na) := ((bcell HB3.out).1 _ _ hg2).trans x0
                have y1 : wr.cell? ⟨g, (m + 1) * 10 + 1, none⟩ = some (.string va) := ((bcell HB3.out).1 _ _ hg2).trans x1
                have y2 : wr.cell? ⟨g, (m + 1) * 10 + 2, none⟩ = some (.string ho) := ((bcell HB3.out).1 _ _ hg2).trans x2
                have y3 : wr.cell? ⟨g, (m + 1) * 10 + 3, none⟩ = some (.bool al) := ((bcell HB3.out).1 _ _ hg2).trans x3
                have y4 : wr.cell? ⟨g, (m + 1) * 10 + 4, none⟩ = some (.string pa) := ((bcell HB3.out).1 _ _ hg2).trans x4
                have y5 : wr.cell? ⟨g, (m + 1) * 10 + 5, none⟩ = some (.bool se) := ((bcell HB3.out).1 _ _ hg2).trans x5
                have y6 : wr.cell? ⟨g, (m + 1) * 10 + 6, none⟩ = some (.int .i64 mo) := ((bcell HB3.out).1 _ _ hg2).trans x6
                have y7 : wr.cell? ⟨g, (m + 1) * 10 + 7, none⟩ = some (.string pt) := ((bcell HB3.out).1 _ _ hg2).trans x7
                have y8 : wr.cell? ⟨g, (m + 1) * 10 + 8, none⟩ = some (.int .i64 un) := ((bcell HB3.out).1 _ _ hg2).trans x8
                have y9 : wr.cell? ⟨g, (m + 1) * 10 + 9, none⟩ = some (.int .i64 ma) := ((bcell HB3.out).1 _ _ hg2).trans x9
                have z0 : wr.cell? ⟨g, j * 10, none⟩ = some (.string (atC L j).na) := ((bcell (B2.out.trans (HB3.out.mono B2.out.size))).1 _ _ hgw).trans (HC.out j (by omega) 0 (by omega))
                have z1 : wr.cell? ⟨g, j * 10 + 1, none⟩ = some (.string (atC L j).va) := ((bcell (B2.out.trans (HB3.out.mono B2.out.size))).1 _ _ hgw).trans (HC.out j (by omega) 1 (by omega))
                have z2 : wr.cell? ⟨g, j * 10 + 2, none⟩ = some (.string (atC L j).ho) := ((bcell (B2.out.trans (HB3.out.mono B2.out.size))).1 _ _ hgw).trans (HC.out j (by omega) 2 (by omega))
                have z3 : wr.cell? ⟨g, j * 10 + 3, none⟩ = some (.bool (atC L j).al) := ((bcell (B2.out.trans (HB3.out.mono B2.out.size))).1 _ _ hgw).trans (HC.out j (by omega) 3 (by omega))
                have z4 : wr.cell? ⟨g, j * 10 + 4, none⟩ = some (.string (atC L j).pa) := ((bcell (B2.out.trans (HB3.out.mono B2.out.size))).1 _ _ hgw).trans (HC.out j (by omega) 4 (by omega))
                have z5 : wr.cell? ⟨g, j * 10 + 5, none⟩ = some (.bool (atC L j).se) := ((bcell (B2.out.trans (HB3.out.mono B2.out.size))).1 _ _ hgw).trans (HC.out j (by omega) 5 (by omega))
                have z6 : wr.cell? ⟨g, j * 10 + 6, none⟩ = some (.int .i64 (atC L j).mo) := ((bcell (B2.out.trans (HB3.out.mono B2.out.size))).1 _ _ hgw).trans (HC.out j (by omega) 6 (by omega))
                have z7 : wr.cell? ⟨g, j * 10 + 7, none⟩ = some (.string (atC L j).pt) := ((bcell (B2.out.trans (HB3.out.mono B2.out.size))).1 _ _ hgw).trans (HC.out j (by omega) 7 (by omega))
                have z8 : wr.cell? ⟨g, j * 10 + 8, none⟩ = some (.int .i64 (atC L j).un) := ((bcell (B2.out.trans (HB3.out.mono B2.out.size))).1 _ _ hgw).trans (HC.out j (by omega) 8 (by omega))
                have z9 : wr.cell? ⟨g, j * 10 + 9, none⟩ = some (.int .i64 (atC L j).ma) := ((bcell (B2.out.trans (HB3.out.mono B2.out.size))).1 _ _ hgw).trans (HC.out j (by omega) 9 (by omega))
                have KE0 : ∀ W, Calls Tryd.prog 118 #[ckV (atC L j), ckV ⟨na, va, ho, al, pa, se, mo, pt, un, ma⟩] W fun e w' => e = .returned (.bool (sameK (atC L j) ⟨na, va, ho, al, pa, se, mo, pt, un, ma⟩)) ∧ Below W.heap.size W w' := fun W => specSame6_any _ _ W
                have HN3 : Hid (sameK (atC L j) ⟨na, va, ho, al, pa, se, mo, pt, un, ma⟩ = true → R = false) := fun e => HSN.out j hjl e
                have HN4 : Hid (sameK (atC L j) ⟨na, va, ho, al, pa, se, mo, pt, un, ma⟩ = false → ∀ i', i' < j + 1 → sameK (atC L i') ⟨na, va, ho, al, pa, se, mo, pt, un, ma⟩ = false) := fun e i' hi' => by
                  by_cases e2 : i' = j
                  · subst e2; exact e
                  · exact HR3.out i' (by omega)
                generalize hsm : sameK (atC L j) ⟨na, va, ho, al, pa, se, mo, pt, un, ma⟩ = sm at *
                clear hsm
                generalize atC L j = zz at *
                obtain ⟨zna, zva, zho, zal, zpa, zse, zmo, zpt, zun, zma⟩ := zz
                unfold ckV at KE0
                dsimp only at *
                have KE : Hid (∀ W, Calls Tryd.prog 118 #[.agg #[.string zna, .string zva, .string zho, .bool zal, .string zpa, .bool zse, .int .i64 zmo, .string zpt, .int .i64 zun, .int .i64 zma], .agg #[.string na, .string va, .string ho, .bool al, .string pa, .bool se, .int .i64 mo, .string pt, .int .i64 un, .int .i64 ma]] W fun e w' => e = .returned (.bool sm) ∧ Below W.heap.size W w') := KE0
                clear KE0
                go_wp2_with fail
                go_region_held3 (fun w' => w'.cell? ⟨g, j * 10, none⟩ = some (.string zna) ∧ w'.cell? ⟨g, j * 10 + 1, none⟩ = some (.string zva) ∧ w'.cell? ⟨g, j * 10 + 2, none⟩ = some (.string zho) ∧ w'.cell? ⟨g, j * 10 + 3, none⟩ = some (.bool zal) ∧ w'.cell? ⟨g, j * 10 + 4, none⟩ = some (.string zpa) ∧ w'.cell? ⟨g, j * 10 + 5, none⟩ = some (.bool zse) ∧ w'.cell? ⟨g, j * 10 + 6, none⟩ = some (.int .i64 zmo) ∧ w'.cell? ⟨g, j * 10 + 7, none⟩ = some (.string zpt) ∧ w'.cell? ⟨g, j * 10 + 8, none⟩ = some (.int .i64 zun) ∧ w'.cell? ⟨g, j * 10 + 9, none⟩ = some (.int .i64 zma) ∧ w'.cell? ⟨g, (m + 1) * 10, none⟩ = some (.string na) ∧ w'.cell? ⟨g, (m + 1) * 10 + 1, none⟩ = some (.string va) ∧ w'.cell? ⟨g, (m + 1) * 10 + 2, none⟩ = some (.string ho) ∧ w'.cell? ⟨g, (m + 1) * 10 + 3, none⟩ = some (.bool al) ∧ w'.cell? ⟨g, (m + 1) * 10 + 4, none⟩ = some (.string pa) ∧ w'.cell? ⟨g, (m + 1) * 10 + 5, none⟩ = some (.bool se) ∧ w'.cell? ⟨g, (m + 1) * 10 + 6, none⟩ = some (.int .i64 mo) ∧ w'.cell? ⟨g, (m + 1) * 10 + 7, none⟩ = some (.string pt) ∧ w'.cell? ⟨g, (m + 1) * 10 + 8, none⟩ = some (.int .i64 un) ∧ w'.cell? ⟨g, (m + 1) * 10 + 9, none⟩ = some (.int .i64 ma)) (go_keep)
                  (first | (go_at_call 118; refine (KE.out _).mono ?_; rintro e w4 ⟨rfl, hb4⟩; have A4 : Below wr.heap.size wr w4 := (Below.drew (Below.refl _ _)).trans hb4; have p0 : w4.cell? ⟨g, j * 10, none⟩ = some (.string zna) := ((bcell A4).1 _ _ hg3).trans z0; have p1 : w4.cell? ⟨g, j * 10 + 1, none⟩ = some (.string zva) := ((bcell A4).1 _ _ hg3).trans z1; have p2 : w4.cell? ⟨g, j * 10 + 2, none⟩ = some (.string zho) := ((bcell A4).1 _ _ hg3).trans z2; have p3 : w4.cell? ⟨g, j * 10 + 3, none⟩ = some (.bool zal) := ((bcell A4).1 _ _ hg3).trans z3; have p4 : w4.cell? ⟨g, j * 10 + 4, none⟩ = some (.string zpa) := ((bcell A4).1 _ _ hg3).trans z4; have p5 : w4.cell? ⟨g, j * 10 + 5, none⟩ = some (.bool zse) := ((bcell A4).1 _ _ hg3).trans z5; have p6 : w4.cell? ⟨g, j * 10 + 6, none⟩ = some (.int .i64 zmo) := ((bcell A4).1 _ _ hg3).trans z6; have p7 : w4.cell? ⟨g, j * 10 + 7, none⟩ = some (.string zpt) := ((bcell A4).1 _ _ hg3).trans z7; have p8 : w4.cell? ⟨g, j * 10 + 8, none⟩ = some (.int .i64 zun) := ((bcell A4).1 _ _ hg3).trans z8; have p9 : w4.cell? ⟨g, j * 10 + 9, none⟩ = some (.int .i64 zma) := ((bcell A4).1 _ _ hg3).trans z9; have q0 : w4.cell? ⟨g, (m + 1) * 10, none⟩ = some (.string na) := ((bcell A4).1 _ _ hg3).trans y0; have q1 : w4.cell? ⟨g, (m + 1) * 10 + 1, none⟩ = some (.string va) := ((bcell A4).1 _ _ hg3).trans y1; have q2 : w4.cell? ⟨g, (m + 1) * 10 + 2, none⟩ = some (.string ho) := ((bcell A4).1 _ _ hg3).trans y2; have q3 : w4.cell? ⟨g, (m + 1) * 10 + 3, none⟩ = some (.bool al) := ((bcell A4).1 _ _ hg3).trans y3; have q4 : w4.cell? ⟨g, (m + 1) * 10 + 4, none⟩ = some (.string pa) := ((bcell A4).1 _ _ hg3).trans y4; have q5 : w4.cell? ⟨g, (m + 1) * 10 + 5, none⟩ = some (.bool se) := ((bcell A4).1 _ _ hg3).trans y5; have q6 : w4.cell? ⟨g, (m + 1) * 10 + 6, none⟩ = some (.int .i64 mo) := ((bcell A4).1 _ _ hg3).trans y6; have q7 : w4.cell? ⟨g, (m + 1) * 10 + 7, none⟩ = some (.string pt) := ((bcell A4).1 _ _ hg3).trans y7; have q8 : w4.cell? ⟨g, (m + 1) * 10 + 8, none⟩ = some (.int .i64 un) := ((bcell A4).1 _ _ hg3).trans y8; have q9 : w4.cell? ⟨g, (m + 1) * 10 + 9, none⟩ = some (.int .i64 ma) := ((bcell A4).1 _ _ hg3).trans y9))
                have B4 : Hid (Below w2.heap.size w2 w4) := HB3.out.trans (A4.mono HB3.out.size)
                clear A4 hb4
                cases sm with
                | true =>
                  have HQ : Hid (R = false) := HN3.out rfl
                  go_wp2
                  go_ret
                  exact ⟨ret_bool HQ.out.symm, B2.out.trans (B4.out.mono B2.out.size)⟩
                | false =>
                  have HN5 : Hid (∀ i', i' < j + 1 → sameK (atC L i') ⟨na, va, ho, al, pa, se, mo, pt, un, ma⟩ = false) := HN4.out rfl
                  go_wp2
                  go_roundw
                  case rel => exact ⟨j + 1, by omega, by go_num, B4, HN5⟩
                  case measure => simp [intOf]; omega
              · have HK2 : Hid (okJ L (m + 1) = true) := HKY.out (fun k hk => HR3.out k (by omega))
                go_wp2
                go_roundw
                case rel => exact ⟨m + 2, by omega, by go_num, B2.out.trans (HB3.out.mono B2.out.size), okJ_succ HR.out HK2.out⟩
                case measure => simp [intOf]; omega
          · have qg : decide (ma ≤ pm) = true := by rw [decide_eq_true_iff]; omega
            have HQ : Hid (R = false) := HMN.out hlm
            clear HKY2 HMN HSN
            go_wp2_with fail
            refine wp_region_held_drew (S := (fun w' => w'.cell? ⟨g, (m + 1) * 10, none⟩ = some (.string na) ∧ w'.cell? ⟨g, (m + 1) * 10 + 1, none⟩ = some (.string va) ∧ w'.cell? ⟨g, (m + 1) * 10 + 2, none⟩ = some (.string ho) ∧ w'.cell? ⟨g, (m + 1) * 10 + 3, none⟩ = some (.bool al) ∧ w'.cell? ⟨g, (m + 1) * 10 + 4, none⟩ = some (.string pa) ∧ w'.cell? ⟨g, (m + 1) * 10 + 5, none⟩ = some (.bool se) ∧ w'.cell? ⟨g, (m + 1) * 10 + 6, none⟩ = some (.int .i64 mo) ∧ w'.cell? ⟨g, (m + 1) * 10 + 7, none⟩ = some (.string pt) ∧ w'.cell? ⟨g, (m + 1) * 10 + 8, none⟩ = some (.int .i64 un) ∧ w'.cell? ⟨g, (m + 1) * 10 + 9, none⟩ = some (.int .i64 ma) ∧ w'.cell? ⟨g, m * 10 + 9, none⟩ = some (.int .i64 pm))) (by kernel_rfl) ?_ (fun hH0 => ?_)
            · (try dsimp only)
              go_keep
            refine wpAnyH_take (i := 0) (oi := { dst := some 11, op := Op.move (Operand.tmp 0), type := 43, pos := "l06_jar.go:18", after := #[], guard := none }) (v := ?vd0) rfl (by kernel_rfl) (by kernel_rfl) (by kernel_rfl) (fun _ _ _ h => h) (Or.inl ⟨by rfl, ?hyd0⟩) (by assumption) ?restd0
            case hyd0 =>
              intro w hSw
              (try dsimp only at hSw)
              go_simp
              try with_reducible rfl
            try simp only [Act.put, List.setIfInBounds_toArray, List.set_cons_zero, List.set_cons_succ]
            refine wpAnyH_take (i := 1) (oi := { dst := some 12, op := Op.move (Operand.tmp 3), type := 3, pos := "l06_jar.go:18", after := #[], guard := none }) (v := ?vd1) rfl (by kernel_rfl) (by kernel_rfl) (by kernel_rfl) (fun _ _ _ h => h) (Or.inl ⟨by rfl, ?hyd1⟩) (by assumption) ?restd1
            case hyd1 =>
              intro w hSw
              (try dsimp only at hSw)
              go_simp
              try with_reducible rfl
            try simp only [Act.put, List.setIfInBounds_toArray, List.set_cons_zero, List.set_cons_succ]
            refine wpAnyH_take (i := 2) (oi := { dst := some 13, op := Op.indexAddr 43 (Operand.tmp 11) (Operand.tmp 12), type := 0, pos := "l06_jar.go:18", after := #[{ on := 0, ground := Ground.data }, { on := 1, ground := Ground.data }], guard := none }) (v := ?vd2) rfl (by kernel_rfl) (by kernel_rfl) (by kernel_rfl) (fun _ _ _ h => h) (Or.inl ⟨by rfl, ?hyd2⟩) (by assumption) ?restd2
            case hyd2 =>
              intro w hSw
              (try dsimp only at hSw)
              go_simp
              try with_reducible rfl
            try simp only [Act.put, List.setIfInBounds_toArray, List.set_cons_zero, List.set_cons_succ]
            refine wpAnyH_take (i := 3) (oi := { dst := some 14, op := Op.load 90 (Operand.tmp 13), type := 90, pos := "l06_jar.go:18", after := #[{ on := 2, ground := Ground.data }], guard := none }) (v := ?vd3) rfl (by kernel_rfl) (by kernel_rfl) (by kernel_rfl) (fun _ _ _ h => h) (Or.inl ⟨by rfl, ?hyd3⟩) (by assumption) ?restd3
            case hyd3 =>
              intro w hSw
              (try dsimp only at hSw)
              go_simp
              try with_reducible rfl
            try simp only [Act.put, List.setIfInBounds_toArray, List.set_cons_zero, List.set_cons_succ]
            refine wpAnyH_ready (rs := [4]) (by kernel_rfl) (by simp) ?_
            refine AllReadyH.cons (o := { dst := some 15, op := Op.call { callee := Callee.value (Operand.func 117), args := #[Operand.tmp 14], argTypes := #[90] }, type := 4, pos := "l06_jar.go:18", after := #[{ on := 3, ground := Ground.data }], guard := none }) rfl (fun K hK => ?_) AllReadyH.nil
            go_simp
            (go_at_call 117; refine (KC.out _).mono ?_; rintro e w2 ⟨rfl, hb2⟩; have x0 : w2.cell? ⟨g, (m + 1) * 10, none⟩ = some (.string na) := ((bcell hb2).1 _ _ hgr).trans c0; have x1 : w2.cell? ⟨g, (m + 1) * 10 + 1, none⟩ = some (.string va) := ((bcell hb2).1 _ _ hgr).trans c1; have x2 : w2.cell? ⟨g, (m + 1) * 10 + 2, none⟩ = some (.string ho) := ((bcell hb2).1 _ _ hgr).trans c2; have x3 : w2.cell? ⟨g, (m + 1) * 10 + 3, none⟩ = some (.bool al) := ((bcell hb2).1 _ _ hgr).trans c3; have x4 : w2.cell? ⟨g, (m + 1) * 10 + 4, none⟩ = some (.string pa) := ((bcell hb2).1 _ _ hgr).trans c4; have x5 : w2.cell? ⟨g, (m + 1) * 10 + 5, none⟩ = some (.bool se) := ((bcell hb2).1 _ _ hgr).trans c5; have x6 : w2.cell? ⟨g, (m + 1) * 10 + 6, none⟩ = some (.int .i64 mo) := ((bcell hb2).1 _ _ hgr).trans c6; have x7 : w2.cell? ⟨g, (m + 1) * 10 + 7, none⟩ = some (.string pt) := ((bcell hb2).1 _ _ hgr).trans c7; have x8 : w2.cell? ⟨g, (m + 1) * 10 + 8, none⟩ = some (.int .i64 un) := ((bcell hb2).1 _ _ hgr).trans c8; have x9 : w2.cell? ⟨g, (m + 1) * 10 + 9, none⟩ = some (.int .i64 ma) := ((bcell hb2).1 _ _ hgr).trans c9; have xm : w2.cell? ⟨g, m * 10 + 9, none⟩ = some (.int .i64 pm) := ((bcell hb2).1 _ _ hgr).trans cm)
            try (go_wp2_with fail)
            refine hK.out _ _ ?_ (fun hH1 => ?_)
            · (try dsimp only)
              go_keep
            clear hK K hH0
            try simp only [Act.put, List.setIfInBounds_toArray, List.set_cons_zero, List.set_cons_succ]
            refine wpAnyH_take (i := 5) (oi := { dst := some 16, op := Op.unOp UnOp.not 4 (Operand.tmp 15), type := 4, pos := "l06_jar.go:18", after := #[{ on := 4, ground := Ground.data }], guard := none }) (v := ?vd5) rfl (by kernel_rfl) (by kernel_rfl) (by kernel_rfl) (fun _ _ _ h => h) (Or.inl ⟨by rfl, ?hyd5⟩) (by assumption) ?restd5
            case hyd5 =>
              intro w hSw
              (try dsimp only at hSw)
              go_simp
              try with_reducible rfl
            try simp only [Act.put, List.setIfInBounds_toArray, List.set_cons_zero, List.set_cons_succ]
            refine wpAnyH_take (i := 6) (oi := { dst := some 17, op := Op.move (Operand.tmp 16), type := 4, pos := "l06_jar.go:18", after := #[{ on := 5, ground := Ground.data }, { on := 4, ground := Ground.chain }], guard := none }) (v := ?vd6) rfl (by kernel_rfl) (by kernel_rfl) (by kernel_rfl) (fun _ _ _ h => h) (Or.inl ⟨by rfl, ?hyd6⟩) (by assumption) ?restd6
            case hyd6 =>
              intro w hSw
              (try dsimp only at hSw)
              go_simp
              try with_reducible rfl
            try simp only [Act.put, List.setIfInBounds_toArray, List.set_cons_zero, List.set_cons_succ]
            refine wpAnyH_take (i := 7) (oi := { dst := some 18, op := Op.move (Operand.tmp 3), type := 3, pos := "l06_jar.go:18", after := #[{ on := 6, ground := Ground.guard }], guard := some (6, false) }) (v := ?vd7) rfl (by kernel_rfl) (by kernel_rfl) (by kernel_rfl) (fun _ _ _ h => h) (Or.inl ⟨by rfl, ?hyd7⟩) (by assumption) ?restd7
            case hyd7 =>
              intro w hSw
              (try dsimp only at hSw)
              go_simp
              try with_reducible rfl
            try simp only [Act.put, List.setIfInBounds_toArray, List.set_cons_zero, List.set_cons_succ]
            refine wpAnyH_take (i := 8) (oi := { dst := some 19, op := Op.binOp BinOp.gtr 3 (Operand.tmp 18) (Operand.const (Value.int IntKind.i64 0)) 3, type := 4, pos := "l06_jar.go:18", after := #[{ on := 7, ground := Ground.data }, { on := 6, ground := Ground.guard }], guard := some (6, false) }) (v := ?vd8) rfl (by kernel_rfl) (by kernel_rfl) (by kernel_rfl) (fun _ _ _ h => h) (Or.inl ⟨by rfl, ?hyd8⟩) (by assumption) ?restd8
            case hyd8 =>
              intro w hSw
              (try dsimp only at hSw)
              go_simp
              try with_reducible rfl
            try simp only [Act.put, List.setIfInBounds_toArray, List.set_cons_zero, List.set_cons_succ]
            refine wpAnyH_take (i := 9) (oi := { dst := some 20, op := Op.move (Operand.tmp 19), type := 4, pos := "l06_jar.go:18", after := #[{ on := 8, ground := Ground.data }, { on := 6, ground := Ground.chain }, { on := 6, ground := Ground.guard }], guard := some (6, false) }) (v := ?vd9) rfl (by kernel_rfl) (by kernel_rfl) (by kernel_rfl) (fun _ _ _ h => h) (Or.inl ⟨by rfl, ?hyd9⟩) (by assumption) ?restd9
            case hyd9 =>
              intro w hSw
              (try dsimp only at hSw)
              go_simp
              try with_reducible rfl
            try simp only [Act.put, List.setIfInBounds_toArray, List.set_cons_zero, List.set_cons_succ]
            refine wpAnyH_take (i := 10) (oi := { dst := some 21, op := Op.move (Operand.tmp 0), type := 43, pos := "l06_jar.go:18", after := #[{ on := 9, ground := Ground.guard }], guard := some (9, true) }) (v := ?vd10) rfl (by kernel_rfl) (by kernel_rfl) (by kernel_rfl) (fun _ _ _ h => h) (Or.inl ⟨by rfl, ?hyd10⟩) (by assumption) ?restd10
            case hyd10 =>
              intro w hSw
              (try dsimp only at hSw)
              go_simp
              try with_reducible rfl
            try simp only [Act.put, List.setIfInBounds_toArray, List.set_cons_zero, List.set_cons_succ]
            refine wpAnyH_take (i := 11) (oi := { dst := some 22, op := Op.move (Operand.tmp 3), type := 3, pos := "l06_jar.go:18", after := #[{ on := 9, ground := Ground.guard }], guard := some (9, true) }) (v := ?vd11) rfl (by kernel_rfl) (by kernel_rfl) (by kernel_rfl) (fun _ _ _ h => h) (Or.inl ⟨by rfl, ?hyd11⟩) (by assumption) ?restd11
            case hyd11 =>
              intro w hSw
              (try dsimp only at hSw)
              go_simp
              try with_reducible rfl
            try simp only [Act.put, List.setIfInBounds_toArray, List.set_cons_zero, List.set_cons_succ]
            refine wpAnyH_take (i := 12) (oi := { dst := some 23, op := Op.binOp BinOp.sub 3 (Operand.tmp 22) (Operand.const (Value.int IntKind.i64 1)) 3, type := 3, pos := "l06_jar.go:18", after := #[{ on := 11, ground := Ground.data }, { on := 9, ground := Ground.guard }], guard := some (9, true) }) (v := ?vd12) rfl (by kernel_rfl) (by kernel_rfl) (by kernel_rfl) (fun _ _ _ h => h) (Or.inl ⟨by rfl, ?hyd12⟩) (by assumption) ?restd12
            case hyd12 =>
              intro w hSw
              (try dsimp only at hSw)
              go_simp
              try with_reducible rfl
            try simp only [Act.put, List.setIfInBounds_toArray, List.set_cons_zero, List.set_cons_succ]
            refine wpAnyH_take (i := 13) (oi := { dst := some 24, op := Op.indexAddr 43 (Operand.tmp 21) (Operand.tmp 23), type := 0, pos := "l06_jar.go:18", after := #[{ on := 10, ground := Ground.data }, { on := 12, ground := Ground.data }, { on := 9, ground := Ground.guard }], guard := some (9, true) }) (v := ?vd13) rfl (by kernel_rfl) (by kernel_rfl) (by kernel_rfl) (fun _ _ _ h => h) (Or.inl ⟨by rfl, ?hyd13⟩) (by assumption) ?restd13
            case hyd13 =>
              intro w hSw
              (try dsimp only at hSw)
              go_simp
              try with_reducible rfl
            try simp only [Act.put, List.setIfInBounds_toArray, List.set_cons_zero, List.set_cons_succ]
            refine wpAnyH_take (i := 14) (oi := { dst := some 25, op := Op.fieldAddr 90 (Operand.tmp 24) 9, type := 0, pos := "l06_jar.go:18", after := #[{ on := 13, ground := Ground.data }, { on := 9, ground := Ground.guard }], guard := some (9, true) }) (v := ?vd14) rfl (by kernel_rfl) (by kernel_rfl) (by kernel_rfl) (fun _ _ _ h => h) (Or.inl ⟨by rfl, ?hyd14⟩) (by assumption) ?restd14
            case hyd14 =>
              intro w hSw
              (try dsimp only at hSw)
              go_simp
              try with_reducible rfl
            try simp only [Act.put, List.setIfInBounds_toArray, List.set_cons_zero, List.set_cons_succ]
            refine wpAnyH_take (i := 15) (oi := { dst := some 26, op := Op.load 2 (Operand.tmp 25), type := 2, pos := "l06_jar.go:18", after := #[{ on := 14, ground := Ground.data }, { on := 9, ground := Ground.guard }], guard := some (9, true) }) (v := ?vd15) rfl (by kernel_rfl) (by kernel_rfl) (by kernel_rfl) (fun _ _ _ h => h) (Or.inl ⟨by rfl, ?hyd15⟩) (by assumption) ?restd15
            case hyd15 =>
              intro w hSw
              (try dsimp only at hSw)
              go_simp
              try with_reducible rfl
            try simp only [Act.put, List.setIfInBounds_toArray, List.set_cons_zero, List.set_cons_succ]
            refine wpAnyH_take (i := 16) (oi := { dst := some 27, op := Op.move (Operand.tmp 0), type := 43, pos := "l06_jar.go:18", after := #[{ on := 9, ground := Ground.guard }], guard := some (9, true) }) (v := ?vd16) rfl (by kernel_rfl) (by kernel_rfl) (by kernel_rfl) (fun _ _ _ h => h) (Or.inl ⟨by rfl, ?hyd16⟩) (by assumption) ?restd16
            case hyd16 =>
              intro w hSw
              (try dsimp only at hSw)
              go_simp
              try with_reducible rfl
            try simp only [Act.put, List.setIfInBounds_toArray, List.set_cons_zero, List.set_cons_succ]
            refine wpAnyH_take (i := 17) (oi := { dst := some 28, op := Op.move (Operand.tmp 3), type := 3, pos := "l06_jar.go:18", after := #[{ on := 9, ground := Ground.guard }], guard := some (9, true) }) (v := ?vd17) rfl (by kernel_rfl) (by kernel_rfl) (by kernel_rfl) (fun _ _ _ h => h) (Or.inl ⟨by rfl, ?hyd17⟩) (by assumption) ?restd17
            case hyd17 =>
              intro w hSw
              (try dsimp only at hSw)
              go_simp
              try with_reducible rfl
            try simp only [Act.put, List.setIfInBounds_toArray, List.set_cons_zero, List.set_cons_succ]
            refine wpAnyH_take (i := 18) (oi := { dst := some 29, op := Op.indexAddr 43 (Operand.tmp 27) (Operand.tmp 28), type := 0, pos := "l06_jar.go:18", after := #[{ on := 16, ground := Ground.data }, { on := 17, ground := Ground.data }, { on := 9, ground := Ground.guard }], guard := some (9, true) }) (v := ?vd18) rfl (by kernel_rfl) (by kernel_rfl) (by kernel_rfl) (fun _ _ _ h => h) (Or.inl ⟨by rfl, ?hyd18⟩) (by assumption) ?restd18
            case hyd18 =>
              intro w hSw
              (try dsimp only at hSw)
              go_simp
              try with_reducible rfl
            try simp only [Act.put, List.setIfInBounds_toArray, List.set_cons_zero, List.set_cons_succ]
            refine wpAnyH_take (i := 19) (oi := { dst := some 30, op := Op.fieldAddr 90 (Operand.tmp 29) 9, type := 0, pos := "l06_jar.go:18", after := #[{ on := 18, ground := Ground.data }, { on := 9, ground := Ground.guard }], guard := some (9, true) }) (v := ?vd19) rfl (by kernel_rfl) (by kernel_rfl) (by kernel_rfl) (fun _ _ _ h => h) (Or.inl ⟨by rfl, ?hyd19⟩) (by assumption) ?restd19
            case hyd19 =>
              intro w hSw
              (try dsimp only at hSw)
              go_simp
              try with_reducible rfl
            try simp only [Act.put, List.setIfInBounds_toArray, List.set_cons_zero, List.set_cons_succ]
            refine wpAnyH_take (i := 20) (oi := { dst := some 31, op := Op.load 2 (Operand.tmp 30), type := 2, pos := "l06_jar.go:18", after := #[{ on := 19, ground := Ground.data }, { on := 9, ground := Ground.guard }], guard := some (9, true) }) (v := ?vd20) rfl (by kernel_rfl) (by kernel_rfl) (by kernel_rfl) (fun _ _ _ h => h) (Or.inl ⟨by rfl, ?hyd20⟩) (by assumption) ?restd20
            case hyd20 =>
              intro w hSw
              (try dsimp only at hSw)
              go_simp
              try with_reducible rfl
            try simp only [Act.put, List.setIfInBounds_toArray, List.set_cons_zero, List.set_cons_succ]
            refine wpAnyH_take (i := 21) (oi := { dst := some 32, op := Op.binOp BinOp.geq 2 (Operand.tmp 26) (Operand.tmp 31) 2, type := 4, pos := "l06_jar.go:18", after := #[{ on := 15, ground := Ground.data }, { on := 20, ground := Ground.data }, { on := 9, ground := Ground.guard }], guard := some (9, true) }) (v := ?vd21) rfl (by kernel_rfl) (by kernel_rfl) (by kernel_rfl) (fun _ _ _ h => h) (Or.inl ⟨by rfl, ?hyd21⟩) (by assumption) ?restd21
            case hyd21 =>
              intro w hSw
              (try dsimp only at hSw)
              go_simp
              try with_reducible rfl
            try simp only [Act.put, List.setIfInBounds_toArray, List.set_cons_zero, List.set_cons_succ]
            refine wpAnyH_take (i := 22) (oi := { dst := some 33, op := Op.pick (Operand.tmp 20) (Operand.tmp 32) (Operand.const (Value.bool false)), type := 4, pos := "l06_jar.go:18", after := #[{ on := 9, ground := Ground.data }, { on := 21, ground := Ground.data }, { on := 6, ground := Ground.guard }], guard := some (6, false) }) (v := ?vd22) rfl (by kernel_rfl) (by kernel_rfl) (by kernel_rfl) (fun _ _ _ h => h) (Or.inl ⟨by rfl, ?hyd22⟩) (by assumption) ?restd22
            case hyd22 =>
              intro w hSw
              (try dsimp only at hSw)
              go_simp
              try with_reducible rfl
            try simp only [Act.put, List.setIfInBounds_toArray, List.set_cons_zero, List.set_cons_succ]
            refine wpAnyH_take (i := 23) (oi := { dst := some 34, op := Op.pick (Operand.tmp 17) (Operand.const (Value.bool true)) (Operand.tmp 33), type := 4, pos := "l06_jar.go:18", after := #[{ on := 6, ground := Ground.data }, { on := 22, ground := Ground.data }], guard := none }) (v := ?vd23) rfl (by kernel_rfl) (by kernel_rfl) (by kernel_rfl) (fun _ _ _ h => h) (Or.inl ⟨by rfl, ?hyd23⟩) (by assumption) ?restd23
            case hyd23 =>
              intro w hSw
              (try dsimp only at hSw)
              go_simp
              try with_reducible rfl
            try simp only [Act.put, List.setIfInBounds_toArray, List.set_cons_zero, List.set_cons_succ]
            refine wpAnyH_done (by kernel_rfl) ?_ _
            go_wp2
            go_ret
            exact ⟨ret_bool HQ.out.symm, (HB.out.trans (Below.drew (Below.refl _ _))).trans (hb2.mono HB.out.size)⟩
    · have HQ : Hid (R = decide ((L.length : Int) ≤ 12)) := HY.out (fun i hi => HR.out i (by omega))
      go_wp2
      go_ret
      exact ⟨ret_bool HQ.out.symm, HB.out⟩
end Go.Proofs.YtimmoclemcnhnaaDoor
