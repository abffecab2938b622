/- 4 of this claim's texts, one behind the other. -/
import Derived.Test.YtaccgciopmclhaaGreatDoorPart2
import Derived.Test.YtaccgciopmclhaaGreatDoorPart4
import Derived.Deep.RegionHeld3
import Derived.WalkKit
import Derived.WalkSpells
import Derived.WalkLawsBesides
/- The walk of the specification's CookieRight. Written by cookie6.py. -/
namespace Go.Proofs.YtaccgciopmclhaaGreatDoor
open Go.RowKit

set_option maxRecDepth 10000 in
theorem specTime_any (n : Int) (w : World) :
    Calls Tryz.prog 31 #[.int .i64 n] w fun e w' => e = .returned (.bool (timeB n)) ∧ w' = w := by
  have H : Hid (∀ W, Calls Tryz.prog 51 #[.int .i64 n, .int .i64 0, .int .i64 1000000] W fun e w' => e = .returned (.bool (timeB n)) ∧ w' = W) := fun W => specIs_any n 0 1000000 W
  generalize timeB n = b at *
  go_enter Tryz.func31, Tryz.ntmps31
  go_wp2_with (go_at_call 51; refine (H.out _).mono ?_; rintro e w1 ⟨rfl, rfl⟩)
  go_ret
  exact ⟨rfl, rfl⟩
set_option maxRecDepth 10000 in
theorem specPart_any (t : ByteArray) (w : World) :
    Calls Tryz.prog 132 #[.string t] w fun e w' => e = .returned (.bool (partB t)) ∧ w' = w := by
  have HE : Hid (partB t = decide ((t.size : Int) ≤ 120)) := by show _ = _; unfold partB; rw [decide_eq_decide]; omega
  go_enter Tryz.func132, Tryz.ntmps132
  go_wp2
  go_ret
  exact ⟨ret_bool HE.out.symm, rfl⟩
set_option maxRecDepth 10000 in
set_option maxHeartbeats 4000000 in
theorem specCookie_any (c : Ck) (w : World) (hna : c.na.size ≤ 1048576) (hva : c.va.size ≤ 1048576) :
    Calls Tryz.prog 77 #[ckV c] w fun e w' => e = .returned (.bool (ckB c)) ∧ Below w.heap.size w w' := by
  obtain ⟨na, va, ho, al, pa, se, mo, pt, un, ma⟩ := c
  dsimp only at hna hva
  have K1 : Hid (∀ W, Calls Tryz.prog 130 #[.string na] W fun e w' => e = .returned (.bool (wordB na)) ∧ w' = W) := fun W => specWord_any na W hna
  have K2 : Hid (∀ W, Calls Tryz.prog 130 #[.string va] W fun e w' => e = .returned (.bool (wordB va)) ∧ w' = W) := fun W => specWord_any va W hva
  have K3 : Hid (∀ W, Calls Tryz.prog 123 #[.string ho] W fun e w' => e = .returned (.bool (hostB ho)) ∧ Below W.heap.size W w') := fun W => specHost_any ho W
  have K4 : Hid (∀ W, Calls Tryz.prog 129 #[.string pa] W fun e w' => e = .returned (.bool (pathB pa)) ∧ w' = W) := fun W => specPath_any pa W
  have K5 : Hid (∀ W, Calls Tryz.prog 131 #[.int .i64 mo] W fun e w' => e = .returned (.bool (modeB mo)) ∧ w' = W) := fun W => specMode_any mo W
  have K6 : Hid (∀ W, Calls Tryz.prog 132 #[.string pt] W fun e w' => e = .returned (.bool (partB pt)) ∧ w' = W) := fun W => specPart_any pt W
  have K7 : Hid (∀ W, Calls Tryz.prog 31 #[.int .i64 un] W fun e w' => e = .returned (.bool (timeB un)) ∧ w' = W) := fun W => specTime_any un W
  have K8 : Hid (∀ W, Calls Tryz.prog 31 #[.int .i64 ma] W fun e w' => e = .returned (.bool (timeB ma)) ∧ w' = W) := fun W => specTime_any ma W
  have HE : Hid (ckB ⟨na, va, ho, al, pa, se, mo, pt, un, ma⟩ = (!na.toList.isEmpty && wordB na && wordB va && hostB ho && pathB pa && modeB mo && partB pt && timeB un && timeB ma && safeB se mo pt)) := rfl
  clear hna hva
  unfold ckV
  dsimp only
  generalize ckB ⟨na, va, ho, al, pa, se, mo, pt, un, ma⟩ = R at *
  generalize wordB na = b1 at *
  generalize wordB va = b2 at *
  generalize hostB ho = b3 at *
  generalize pathB pa = b4 at *
  generalize modeB mo = b5 at *
  generalize partB pt = b6 at *
  generalize timeB un = b7 at *
  generalize timeB ma = b8 at *
  go_enter Tryz.func77, Tryz.ntmps77
  cases hnE : na.toList.isEmpty with
  | true =>
    go_wp2
    go_ret
    exact ⟨ret_bool (by rw [HE.out]; first | rfl | simp [*]), (Below.refl _ _).alloc (Nat.le_refl _) _⟩
  | false =>
    go_wp2_with fail
    refine (K1.out _).mono ?_
    rintro e w1 ⟨rfl, rfl⟩
    cases b1 with
    | false =>
      go_wp2
      go_ret
      exact ⟨ret_bool (by rw [HE.out, hnE]; first | rfl | simp [*]), (Below.refl _ _).alloc (Nat.le_refl _) _⟩
    | true =>
      go_wp2_with fail
      refine (K2.out _).mono ?_
      rintro e w2 ⟨rfl, rfl⟩
      cases b2 with
      | false =>
        go_wp2
        go_ret
        exact ⟨ret_bool (by rw [HE.out, hnE]; first | rfl | simp [*]), (Below.refl _ _).alloc (Nat.le_refl _) _⟩
      | true =>
        go_wp2_with fail
        refine (K3.out _).mono ?_
        rintro e w3 ⟨rfl, hb3⟩
        have hz_w3 : w.heap.size < w3.heap.size := by have := hb3.size; simp at this; omega
        have g4_w3 : w3.cell? ⟨w.heap.size, 4, none⟩ = some (.string pa) := by rw [(bcell hb3).1 _ _ (by simp)]; simp
        have g5_w3 : w3.cell? ⟨w.heap.size, 5, none⟩ = some (.bool se) := by rw [(bcell hb3).1 _ _ (by simp)]; simp
        have g6_w3 : w3.cell? ⟨w.heap.size, 6, none⟩ = some (.int .i64 mo) := by rw [(bcell hb3).1 _ _ (by simp)]; simp
        have g7_w3 : w3.cell? ⟨w.heap.size, 7, none⟩ = some (.string pt) := by rw [(bcell hb3).1 _ _ (by simp)]; simp
        have g8_w3 : w3.cell? ⟨w.heap.size, 8, none⟩ = some (.int .i64 un) := by rw [(bcell hb3).1 _ _ (by simp)]; simp
        have g9_w3 : w3.cell? ⟨w.heap.size, 9, none⟩ = some (.int .i64 ma) := by rw [(bcell hb3).1 _ _ (by simp)]; simp
        have B_w3 : Hid (Below w.heap.size w w3) := ((Below.refl _ _).alloc (Nat.le_refl _) _).trans (hb3.mono (by simp))
        clear hb3
        cases b3 with
        | false =>
          go_wp2
          go_ret
          exact ⟨ret_bool (by rw [HE.out, hnE]; first | rfl | simp [*]), B_w3.out⟩
        | true =>
          go_wp2_with fail
          refine (K4.out _).mono ?_
          rintro e _ ⟨rfl, rfl⟩
          cases b4 with
          | false =>
            go_wp2
            go_ret
            exact ⟨ret_bool (by rw [HE.out, hnE]; first | rfl | simp [*]), B_w3.out⟩
          | true =>
            go_wp2_with fail
            refine (K5.out _).mono ?_
            rintro e _ ⟨rfl, rfl⟩
            cases b5 with
            | false =>
              go_wp2
              go_ret
              exact ⟨ret_bool (by rw [HE.out, hnE]; first | rfl | simp [*]), B_w3.out⟩
            | true =>
              go_wp2_with fail
              refine (K6.out _).mono ?_
              rintro e _ ⟨rfl, rfl⟩
              cases b6 with
              | false =>
                go_wp2
                go_ret
                exact ⟨ret_bool (by rw [HE.out, hnE]; first | rfl | simp [*]), B_w3.out⟩
              | true =>
                go_wp2_with fail
                refine (K7.out _).mono ?_
                rintro e _ ⟨rfl, rfl⟩
                cases b7 with
                | false =>
                  go_wp2
                  go_ret
                  exact ⟨ret_bool (by rw [HE.out, hnE]; first | rfl | simp [*]), B_w3.out⟩
                | true =>
                  go_wp2_with fail
                  refine (K8.out _).mono ?_
                  rintro e _ ⟨rfl, rfl⟩
                  cases b8 with
                  | false =>
                    go_wp2
                    go_ret
                    exact ⟨ret_bool (by rw [HE.out, hnE]; first | rfl | simp [*]), B_w3.out⟩
                  | true =>
                    cases se with
                    | true =>
                      go_wp2
                      go_ret
                      exact ⟨ret_bool (by rw [HE.out, hnE]; first | rfl | simp [*]), B_w3.out⟩
                    | false =>
                      by_cases hm2 : mo = 2
                      · have qm : (mo != 2) = false := by rw [hm2]; rfl
                        have HS : Hid (safeB false mo pt = false) := by show _ = _; unfold safeB; rw [qm]; rfl
                        clear hm2
                        go_wp2
                        go_ret
                        exact ⟨ret_bool (by rw [HE.out, hnE]; first | rfl | (rw [HS.out]; rfl) | simp [*]), B_w3.out⟩
                      · have qm : (mo != 2) = true := by rw [bne_iff_ne]; exact hm2
                        have HS : Hid (safeB false mo pt = pt.toList.isEmpty) := by show _ = _; unfold safeB; rw [qm]; rfl
                        clear hm2
                        go_wp2
                        go_ret
                        exact ⟨ret_bool (by rw [HE.out, hnE]; first | rfl | (rw [HS.out]; rfl) | simp [*]), B_w3.out⟩
end Go.Proofs.YtaccgciopmclhaaGreatDoor

/- The walks of the specification's l06Same and JarRight. Written by specjar.py. -/
namespace Go.Proofs.YtaccgciopmclhaaGreatDoor
open Go.RowKit

set_option maxRecDepth 10000 in
set_option maxHeartbeats 4000000 in
theorem specSame6_any (a b : Ck) (w : World) :
    Calls Tryz.prog 78 #[ckV a, ckV b] w fun e w' => e = .returned (.bool (sameK a b)) ∧ Below w.heap.size w w' := by
  have HE : Hid (sameK a b = ((a.ho.toList == b.ho.toList) && (a.al == b.al) && (a.pa.toList == b.pa.toList) && (a.pt.toList == b.pt.toList) && (a.na.toList == b.na.toList))) := rfl
  have HB : Hid (∀ x y : Obj, Below w.heap.size w ((w.alloc x).alloc y)) := fun x y => ((Below.refl _ _).alloc (Nat.le_refl _) _).alloc (by simp) _
  generalize sameK a b = R at *
  obtain ⟨na, va, ho, al, pa, se, mo, pt, un, ma⟩ := a
  obtain ⟨na2, va2, ho2, al2, pa2, se2, mo2, pt2, un2, ma2⟩ := b
  unfold ckV
  dsimp only at HE ⊢
  cases h1 : (ho.toList == ho2.toList) with
  | false =>
    have HQ : Hid (R = false) := by show _ = _; rw [HE.out, h1]; rfl
    go_enter Tryz.func78, Tryz.ntmps78
    go_wp2
    go_ret
    exact ⟨ret_bool HQ.out.symm, HB.out _ _⟩
  | true =>
    cases h2 : (al == al2) with
    | false =>
      have HQ : Hid (R = false) := by show _ = _; rw [HE.out, h1, h2]; rfl
      go_enter Tryz.func78, Tryz.ntmps78
      go_wp2
      go_ret
      exact ⟨ret_bool HQ.out.symm, HB.out _ _⟩
    | true =>
      cases h3 : (pa.toList == pa2.toList) with
      | false =>
        have HQ : Hid (R = false) := by show _ = _; rw [HE.out, h1, h2, h3]; rfl
        go_enter Tryz.func78, Tryz.ntmps78
        go_wp2
        go_ret
        exact ⟨ret_bool HQ.out.symm, HB.out _ _⟩
      | true =>
        cases h4 : (pt.toList == pt2.toList) with
        | false =>
          have HQ : Hid (R = false) := by show _ = _; rw [HE.out, h1, h2, h3, h4]; rfl
          go_enter Tryz.func78, Tryz.ntmps78
          go_wp2
          go_ret
          exact ⟨ret_bool HQ.out.symm, HB.out _ _⟩
        | true =>
          have HQ : Hid (R = (na.toList == na2.toList)) := by show _ = _; rw [HE.out, h1, h2, h3, h4]; rfl
          go_enter Tryz.func78, Tryz.ntmps78
          go_wp2
          go_ret
          exact ⟨ret_bool HQ.out.symm, HB.out _ _⟩

set_option maxRecDepth 10000 in
set_option maxHeartbeats 8000000 in
theorem specJar_any (v : Value) (L : List Ck) (B : Nat) (w : World) (hs : SliceC w B v L) (hn : L.length ≤ 1048576) (hz : ∀ i, i < L.length → (atC L i).na.size ≤ 1048576 ∧ (atC L i).va.size ≤ 1048576) :
    Calls Tryz.prog 28 #[v] w fun e w' => e = .returned (.bool (jarB L)) ∧ Below w.heap.size w w' := by
  have KX : Hid (∀ j, j < L.length → ∀ W, Calls Tryz.prog 77 #[ckV (atC L j)] W fun e w' => e = .returned (.bool (ckB (atC L j))) ∧ Below W.heap.size W w') := fun j hj W => specCookie_any _ W (hz j hj).1 (hz j hj).2
  have HN : Hid (∀ k, k < L.length → okJ L k = false → jarB L = false) := fun k a b => jarB_at k a b
  have HY : Hid ((∀ i, i < L.length → okJ L i = true) → jarB L = decide ((L.length : Int) ≤ 12)) := fun h => by
    rw [jarB_all h, decide_eq_decide]; omega
  obtain ⟨⟨q, cap, rfl, hg⟩, -⟩ := hs
  have HG : Hid (0 < L.length → ∃ g, q = some ⟨g, 0, none⟩ ∧ g < w.heap.size ∧ ∀ j, j < L.length → ∀ o, o < 10 → w.cell? ⟨g, j * 10 + o, none⟩ = some (ckC (atC L j) o)) := fun h0 => by
    obtain ⟨g, e, -, hgw, hc⟩ := hg h0
    exact ⟨g, e, hgw, fun j hj o ho => (hc j hj o ho).1⟩
  clear hg hz
  generalize jarB L = R at *
  go_enter Tryz.func28, Tryz.ntmps28
  go_wp2
  go_loopw [3] (fun i wr => ∃ k : Nat, k ≤ L.length ∧ i = .int .i64 k ∧ Hid (Below w.heap.size w wr) ∧ Hid (∀ j, j < k → okJ L j = true)) (fun i _ => L.length - (intOf i).toNat)
  case atStart => exact ⟨0, Nat.zero_le _, rfl, Below.refl _ _, fun j hj => absurd hj (by omega)⟩
  case round =>
    obtain ⟨k, hk, rfl, HB, HR⟩ := hrel
    by_cases hlt : k < L.length
    · obtain ⟨g, rfl, hgw, hc⟩ := HG.out (by omega)
      have HC : Hid (∀ j, j < L.length → ∀ o, o < 10 → w.cell? ⟨g, j * 10 + o, none⟩ = some (ckC (atC L j) o)) := hc
      have hgr : g < wr.heap.size := Nat.lt_of_lt_of_le hgw HB.out.size
      have KC0 := KX.out k hlt
      have k0 : (0 : Int) ≤ k := by omega
      have k1 : (k : Int) < L.length := by omega
      have HKN : Hid (ckB (atC L k) = false → R = false) := fun e => HN.out k hlt (okJ_no e)
      have HKY : Hid (ckB (atC L k) = true → (k = 0 ∨ (atC L (k - 1)).ma < (atC L k).ma) → (∀ i, i < k → sameK (atC L i) (atC L k) = false) → okJ L k = true) := fun a b c => okJ_yes a b c
      have HSN : Hid (∀ j, j < k → sameK (atC L j) (atC L k) = true → R = false) := fun j hj e => HN.out k hlt (okJ_same j hj e)
      clear hc
      generalize hcb : ckB (atC L k) = cb at *
      clear hcb
      have c0 : wr.cell? ⟨g, k * 10, none⟩ = some (.string (atC L k).na) := by rw [(bcell HB.out).1 _ _ hgw]; exact HC.out k hlt 0 (by omega)
      have c1 : wr.cell? ⟨g, k * 10 + 1, none⟩ = some (.string (atC L k).va) := by rw [(bcell HB.out).1 _ _ hgw]; exact HC.out k hlt 1 (by omega)
      have c2 : wr.cell? ⟨g, k * 10 + 2, none⟩ = some (.string (atC L k).ho) := by rw [(bcell HB.out).1 _ _ hgw]; exact HC.out k hlt 2 (by omega)
      have c3 : wr.cell? ⟨g, k * 10 + 3, none⟩ = some (.bool (atC L k).al) := by rw [(bcell HB.out).1 _ _ hgw]; exact HC.out k hlt 3 (by omega)
      have c4 : wr.cell? ⟨g, k * 10 + 4, none⟩ = some (.string (atC L k).pa) := by rw [(bcell HB.out).1 _ _ hgw]; exact HC.out k hlt 4 (by omega)
      have c5 : wr.cell? ⟨g, k * 10 + 5, none⟩ = some (.bool (atC L k).se) := by rw [(bcell HB.out).1 _ _ hgw]; exact HC.out k hlt 5 (by omega)
      have c6 : wr.cell? ⟨g, k * 10 + 6, none⟩ = some (.int .i64 (atC L k).mo) := by rw [(bcell HB.out).1 _ _ hgw]; exact HC.out k hlt 6 (by omega)
      have c7 : wr.cell? ⟨g, k * 10 + 7, none⟩ = some (.string (atC L k).pt) := by rw [(bcell HB.out).1 _ _ hgw]; exact HC.out k hlt 7 (by omega)
      have c8 : wr.cell? ⟨g, k * 10 + 8, none⟩ = some (.int .i64 (atC L k).un) := by rw [(bcell HB.out).1 _ _ hgw]; exact HC.out k hlt 8 (by omega)
      have c9 : wr.cell? ⟨g, k * 10 + 9, none⟩ = some (.int .i64 (atC L k).ma) := by rw [(bcell HB.out).1 _ _ hgw]; exact HC.out k hlt 9 (by omega)
      cases cb with
      | false =>
        have HQ : Hid (R = false) := HKN.out rfl
        clear HKN HKY HSN
        generalize atC L k = y at *
        obtain ⟨na, va, ho, al, pa, se, mo, pt, un, ma⟩ := y
        unfold ckV at KC0
        dsimp only at *
        have KC : Hid (∀ W, Calls Tryz.prog 77 #[.agg #[.string na, .string va, .string ho, .bool al, .string pa, .bool se, .int .i64 mo, .string pt, .int .i64 un, .int .i64 ma]] W fun e w' => e = .returned (.bool false) ∧ Below W.heap.size W w') := KC0
        clear KC0
        go_wp2_with fail
        refine wp_region_held_drew (S := (fun w' => w'.cell? ⟨g, k * 10, none⟩ = some (.string na) ∧ w'.cell? ⟨g, k * 10 + 1, none⟩ = some (.string va) ∧ w'.cell? ⟨g, k * 10 + 2, none⟩ = some (.string ho) ∧ w'.cell? ⟨g, k * 10 + 3, none⟩ = some (.bool al) ∧ w'.cell? ⟨g, k * 10 + 4, none⟩ = some (.string pa) ∧ w'.cell? ⟨g, k * 10 + 5, none⟩ = some (.bool se) ∧ w'.cell? ⟨g, k * 10 + 6, none⟩ = some (.int .i64 mo) ∧ w'.cell? ⟨g, k * 10 + 7, none⟩ = some (.string pt) ∧ w'.cell? ⟨g, k * 10 + 8, none⟩ = some (.int .i64 un) ∧ w'.cell? ⟨g, k * 10 + 9, none⟩ = some (.int .i64 ma))) (by kernel_rfl) ?_ (fun hH0 => ?_)
        · (try dsimp only)
          go_keep
        refine wpAnyH_take (i := 0) (oi := { dst := some 11, op := Op.move (Operand.tmp 0), type := 34, pos := "l06_jar.go:18", after := #[], guard := none }) (v := ?va0) rfl (by kernel_rfl) (by kernel_rfl) (by kernel_rfl) (fun _ _ _ h => h) (Or.inl ⟨by rfl, ?hya0⟩) (by assumption) ?resta0
        case hya0 =>
          intro w hSw
          (try dsimp only at hSw)
          go_simp
          try with_reducible rfl
        try simp only [Act.put, List.setIfInBounds_toArray, List.set_cons_zero, List.set_cons_succ]
        refine wpAnyH_take (i := 1) (oi := { dst := some 12, op := Op.move (Operand.tmp 3), type := 3, pos := "l06_jar.go:18", after := #[], guard := none }) (v := ?va1) rfl (by kernel_rfl) (by kernel_rfl) (by kernel_rfl) (fun _ _ _ h => h) (Or.inl ⟨by rfl, ?hya1⟩) (by assumption) ?resta1
        case hya1 =>
          intro w hSw
          (try dsimp only at hSw)
          go_simp
          try with_reducible rfl
        try simp only [Act.put, List.setIfInBounds_toArray, List.set_cons_zero, List.set_cons_succ]
        refine wpAnyH_take (i := 2) (oi := { dst := some 13, op := Op.indexAddr 34 (Operand.tmp 11) (Operand.tmp 12), type := 0, pos := "l06_jar.go:18", after := #[{ on := 0, ground := Ground.data }, { on := 1, ground := Ground.data }], guard := none }) (v := ?va2) rfl (by kernel_rfl) (by kernel_rfl) (by kernel_rfl) (fun _ _ _ h => h) (Or.inl ⟨by rfl, ?hya2⟩) (by assumption) ?resta2
        case hya2 =>
          intro w hSw
          (try dsimp only at hSw)
          go_simp
          try with_reducible rfl
        try simp only [Act.put, List.setIfInBounds_toArray, List.set_cons_zero, List.set_cons_succ]
        refine wpAnyH_take (i := 3) (oi := { dst := some 14, op := Op.load 125 (Operand.tmp 13), type := 125, pos := "l06_jar.go:18", after := #[{ on := 2, ground := Ground.data }], guard := none }) (v := ?va3) rfl (by kernel_rfl) (by kernel_rfl) (by kernel_rfl) (fun _ _ _ h => h) (Or.inl ⟨by rfl, ?hya3⟩) (by assumption) ?resta3
        case hya3 =>
          intro w hSw
          (try dsimp only at hSw)
          go_simp
          try with_reducible rfl
        try simp only [Act.put, List.setIfInBounds_toArray, List.set_cons_zero, List.set_cons_succ]
        refine wpAnyH_ready (rs := [4]) (by kernel_rfl) (by simp) ?_
        refine AllReadyH.cons (o := { dst := some 15, op := Op.call { callee := Callee.value (Operand.func 77), args := #[Operand.tmp 14], argTypes := #[125] }, type := 4, pos := "l06_jar.go:18", after := #[{ on := 3, ground := Ground.data }], guard := none }) rfl (fun K hK => ?_) AllReadyH.nil
        go_simp
        (go_at_call 77; refine (KC.out _).mono ?_; rintro e w2 ⟨rfl, hb2⟩; have x0 : w2.cell? ⟨g, k * 10, none⟩ = some (.string na) := ((bcell hb2).1 _ _ hgr).trans c0; have x1 : w2.cell? ⟨g, k * 10 + 1, none⟩ = some (.string va) := ((bcell hb2).1 _ _ hgr).trans c1; have x2 : w2.cell? ⟨g, k * 10 + 2, none⟩ = some (.string ho) := ((bcell hb2).1 _ _ hgr).trans c2; have x3 : w2.cell? ⟨g, k * 10 + 3, none⟩ = some (.bool al) := ((bcell hb2).1 _ _ hgr).trans c3; have x4 : w2.cell? ⟨g, k * 10 + 4, none⟩ = some (.string pa) := ((bcell hb2).1 _ _ hgr).trans c4; have x5 : w2.cell? ⟨g, k * 10 + 5, none⟩ = some (.bool se) := ((bcell hb2).1 _ _ hgr).trans c5; have x6 : w2.cell? ⟨g, k * 10 + 6, none⟩ = some (.int .i64 mo) := ((bcell hb2).1 _ _ hgr).trans c6; have x7 : w2.cell? ⟨g, k * 10 + 7, none⟩ = some (.string pt) := ((bcell hb2).1 _ _ hgr).trans c7; have x8 : w2.cell? ⟨g, k * 10 + 8, none⟩ = some (.int .i64 un) := ((bcell hb2).1 _ _ hgr).trans c8; have x9 : w2.cell? ⟨g, k * 10 + 9, none⟩ = some (.int .i64 ma) := ((bcell hb2).1 _ _ hgr).trans c9)
        try (go_wp2_with fail)
        refine hK.out _ _ ?_ (fun hH1 => ?_)
        · (try dsimp only)
          go_keep
        clear hK K hH0
        try simp only [Act.put, List.setIfInBounds_toArray, List.set_cons_zero, List.set_cons_succ]
        refine wpAnyH_take (i := 5) (oi := { dst := some 16, op := Op.unOp UnOp.not 4 (Operand.tmp 15), type := 4, pos := "l06_jar.go:18", after := #[{ on := 4, ground := Ground.data }], guard := none }) (v := ?va5) rfl (by kernel_rfl) (by kernel_rfl) (by kernel_rfl) (fun _ _ _ h => h) (Or.inl ⟨by rfl, ?hya5⟩) (by assumption) ?resta5
        case hya5 =>
          intro w hSw
          (try dsimp only at hSw)
          go_simp
          try with_reducible rfl
        try simp only [Act.put, List.setIfInBounds_toArray, List.set_cons_zero, List.set_cons_succ]
        refine wpAnyH_take (i := 6) (oi := { dst := some 17, op := Op.move (Operand.tmp 16), type := 4, pos := "l06_jar.go:18", after := #[{ on := 5, ground := Ground.data }, { on := 4, ground := Ground.chain }], guard := none }) (v := ?va6) rfl (by kernel_rfl) (by kernel_rfl) (by kernel_rfl) (fun _ _ _ h => h) (Or.inl ⟨by rfl, ?hya6⟩) (by assumption) ?resta6
        case hya6 =>
          intro w hSw
          (try dsimp only at hSw)
          go_simp
          try with_reducible rfl
        try simp only [Act.put, List.setIfInBounds_toArray, List.set_cons_zero, List.set_cons_succ]
        refine wpAnyH_take (i := 7) (oi := { dst := some 18, op := Op.move (Operand.tmp 3), type := 3, pos := "l06_jar.go:18", after := #[{ on := 6, ground := Ground.guard }], guard := some (6, false) }) (v := undef) rfl (by kernel_rfl) (by kernel_rfl) (by kernel_rfl) (fun _ _ _ h => h) (Or.inr ⟨by rfl, rfl⟩) (by assumption) ?_
        try simp only [Act.put, List.setIfInBounds_toArray, List.set_cons_zero, List.set_cons_succ]
        refine wpAnyH_take (i := 8) (oi := { dst := some 19, op := Op.binOp BinOp.gtr 3 (Operand.tmp 18) (Operand.const (Value.int IntKind.i64 0)) 3, type := 4, pos := "l06_jar.go:18", after := #[{ on := 7, ground := Ground.data }, { on := 6, ground := Ground.guard }], guard := some (6, false) }) (v := undef) rfl (by kernel_rfl) (by kernel_rfl) (by kernel_rfl) (fun _ _ _ h => h) (Or.inr ⟨by rfl, rfl⟩) (by assumption) ?_
        try simp only [Act.put, List.setIfInBounds_toArray, List.set_cons_zero, List.set_cons_succ]
        refine wpAnyH_take (i := 9) (oi := { dst := some 20, op := Op.move (Operand.tmp 19), type := 4, pos := "l06_jar.go:18", after := #[{ on := 8, ground := Ground.data }, { on := 6, ground := Ground.chain }, { on := 6, ground := Ground.guard }], guard := some (6, false) }) (v := undef) rfl (by kernel_rfl) (by kernel_rfl) (by kernel_rfl) (fun _ _ _ h => h) (Or.inr ⟨by rfl, rfl⟩) (by assumption) ?_
        try simp only [Act.put, List.setIfInBounds_toArray, List.set_cons_zero, List.set_cons_succ]
        refine wpAnyH_take (i := 10) (oi := { dst := some 21, op := Op.move (Operand.tmp 0), type := 34, pos := "l06_jar.go:18", after := #[{ on := 9, ground := Ground.guard }], guard := some (9, true) }) (v := undef) rfl (by kernel_rfl) (by kernel_rfl) (by kernel_rfl) (fun _ _ _ h => h) (Or.inr ⟨by rfl, rfl⟩) (by assumption) ?_
        try simp only [Act.put, List.setIfInBounds_toArray, List.set_cons_zero, List.set_cons_succ]
        refine wpAnyH_take (i := 11) (oi := { dst := some 22, op := Op.move (Operand.tmp 3), type := 3, pos := "l06_jar.go:18", after := #[{ on := 9, ground := Ground.guard }], guard := some (9, true) }) (v := undef) rfl (by kernel_rfl) (by kernel_rfl) (by kernel_rfl) (fun _ _ _ h => h) (Or.inr ⟨by rfl, rfl⟩) (by assumption) ?_
        try simp only [Act.put, List.setIfInBounds_toArray, List.set_cons_zero, List.set_cons_succ]
        refine wpAnyH_take (i := 12) (oi := { dst := some 23, op := Op.binOp BinOp.sub 3 (Operand.tmp 22) (Operand.const (Value.int IntKind.i64 1)) 3, type := 3, pos := "l06_jar.go:18", after := #[{ on := 11, ground := Ground.data }, { on := 9, ground := Ground.guard }], guard := some (9, true) }) (v := undef) rfl (by kernel_rfl) (by kernel_rfl) (by kernel_rfl) (fun _ _ _ h => h) (Or.inr ⟨by rfl, rfl⟩) (by assumption) ?_
        try simp only [Act.put, List.setIfInBounds_toArray, List.set_cons_zero, List.set_cons_succ]
        refine wpAnyH_take (i := 13) (oi := { dst := some 24, op := Op.indexAddr 34 (Operand.tmp 21) (Operand.tmp 23), type := 0, pos := "l06_jar.go:18", after := #[{ on := 10, ground := Ground.data }, { on := 12, ground := Ground.data }, { on := 9, ground := Ground.guard }], guard := some (9, true) }) (v := undef) rfl (by kernel_rfl) (by kernel_rfl) (by kernel_rfl) (fun _ _ _ h => h) (Or.inr ⟨by rfl, rfl⟩) (by assumption) ?_
        try simp only [Act.put, List.setIfInBounds_toArray, List.set_cons_zero, List.set_cons_succ]
        refine wpAnyH_take (i := 14) (oi := { dst := some 25, op := Op.fieldAddr 125 (Operand.tmp 24) 9, type := 0, pos := "l06_jar.go:18", after := #[{ on := 13, ground := Ground.data }, { on := 9, ground := Ground.guard }], guard := some (9, true) }) (v := undef) rfl (by kernel_rfl) (by kernel_rfl) (by kernel_rfl) (fun _ _ _ h => h) (Or.inr ⟨by rfl, rfl⟩) (by assumption) ?_
        try simp only [Act.put, List.setIfInBounds_toArray, List.set_cons_zero, List.set_cons_succ]
        refine wpAnyH_take (i := 15) (oi := { dst := some 26, op := Op.load 2 (Operand.tmp 25), type := 2, pos := "l06_jar.go:18", after := #[{ on := 14, ground := Ground.data }, { on := 9, ground := Ground.guard }], guard := some (9, true) }) (v := undef) rfl (by kernel_rfl) (by kernel_rfl) (by kernel_rfl) (fun _ _ _ h => h) (Or.inr ⟨by rfl, rfl⟩) (by assumption) ?_
        try simp only [Act.put, List.setIfInBounds_toArray, List.set_cons_zero, List.set_cons_succ]
        refine wpAnyH_take (i := 16) (oi := { dst := some 27, op := Op.move (Operand.tmp 0), type := 34, pos := "l06_jar.go:18", after := #[{ on := 9, ground := Ground.guard }], guard := some (9, true) }) (v := undef) rfl (by kernel_rfl) (by kernel_rfl) (by kernel_rfl) (fun _ _ _ h => h) (Or.inr ⟨by rfl, rfl⟩) (by assumption) ?_
        try simp only [Act.put, List.setIfInBounds_toArray, List.set_cons_zero, List.set_cons_succ]
        refine wpAnyH_take (i := 17) (oi := { dst := some 28, op := Op.move (Operand.tmp 3), type := 3, pos := "l06_jar.go:18", after := #[{ on := 9, ground := Ground.guard }], guard := some (9, true) }) (v := undef) rfl (by kernel_rfl) (by kernel_rfl) (by kernel_rfl) (fun _ _ _ h => h) (Or.inr ⟨by rfl, rfl⟩) (by assumption) ?_
        try simp only [Act.put, List.setIfInBounds_toArray, List.set_cons_zero, List.set_cons_succ]
        refine wpAnyH_take (i := 18) (oi := { dst := some 29, op := Op.indexAddr 34 (Operand.tmp 27) (Operand.tmp 28), type := 0, pos := "l06_jar.go:18", after := #[{ on := 16, ground := Ground.data }, { on := 17, ground := Ground.data }, { on := 9, ground := Ground.guard }], guard := some (9, true) }) (v := undef) rfl (by kernel_rfl) (by kernel_rfl) (by kernel_rfl) (fun _ _ _ h => h) (Or.inr ⟨by rfl, rfl⟩) (by assumption) ?_
        try simp only [Act.put, List.setIfInBounds_toArray, List.set_cons_zero, List.set_cons_succ]
        refine wpAnyH_take (i := 19) (oi := { dst := some 30, op := Op.fieldAddr 125 (Operand.tmp 29) 9, type := 0, pos := "l06_jar.go:18", after := #[{ on := 18, ground := Ground.data }, { on := 9, ground := Ground.guard }], guard := some (9, true) }) (v := undef) rfl (by kernel_rfl) (by kernel_rfl) (by kernel_rfl) (fun _ _ _ h => h) (Or.inr ⟨by rfl, rfl⟩) (by assumption) ?_
        try simp only [Act.put, List.setIfInBounds_toArray, List.set_cons_zero, List.set_cons_succ]
        refine wpAnyH_take (i := 20) (oi := { dst := some 31, op := Op.load 2 (Operand.tmp 30), type := 2, pos := "l06_jar.go:18", after := #[{ on := 19, ground := Ground.data }, { on := 9, ground := Ground.guard }], guard := some (9, true) }) (v := undef) rfl (by kernel_rfl) (by kernel_rfl) (by kernel_rfl) (fun _ _ _ h => h) (Or.inr ⟨by rfl, rfl⟩) (by assumption) ?_
        try simp only [Act.put, List.setIfInBounds_toArray, List.set_cons_zero, List.set_cons_succ]
        refine wpAnyH_take (i := 21) (oi := { dst := some 32, op := Op.binOp BinOp.geq 2 (Operand.tmp 26) (Operand.tmp 31) 2, type := 4, pos := "l06_jar.go:18", after := #[{ on := 15, ground := Ground.data }, { on := 20, ground := Ground.data }, { on := 9, ground := Ground.guard }], guard := some (9, true) }) (v := undef) rfl (by kernel_rfl) (by kernel_rfl) (by kernel_rfl) (fun _ _ _ h => h) (Or.inr ⟨by rfl, rfl⟩) (by assumption) ?_
        try simp only [Act.put, List.setIfInBounds_toArray, List.set_cons_zero, List.set_cons_succ]
        refine wpAnyH_take (i := 22) (oi := { dst := some 33, op := Op.pick (Operand.tmp 20) (Operand.tmp 32) (Operand.const (Value.bool false)), type := 4, pos := "l06_jar.go:18", after := #[{ on := 9, ground := Ground.data }, { on := 21, ground := Ground.data }, { on := 6, ground := Ground.guard }], guard := some (6, false) }) (v := undef) rfl (by kernel_rfl) (by kernel_rfl) (by kernel_rfl) (fun _ _ _ h => h) (Or.inr ⟨by rfl, rfl⟩) (by assumption) ?_
        try simp only [Act.put, List.setIfInBounds_toArray, List.set_cons_zero, List.set_cons_succ]
        refine wpAnyH_take (i := 23) (oi := { dst := some 34, op := Op.pick (Operand.tmp 17) (Operand.const (Value.bool true)) (Operand.tmp 33), type := 4, pos := "l06_jar.go:18", after := #[{ on := 6, ground := Ground.data }, { on := 22, ground := Ground.data }], guard := none }) (v := ?va23) rfl (by kernel_rfl) (by kernel_rfl) (by kernel_rfl) (fun _ _ _ h => h) (Or.inl ⟨by rfl, ?hya23⟩) (by assumption) ?resta23
        case hya23 =>
          intro w hSw
          (try dsimp only at hSw)
          go_simp
          try with_reducible rfl
        try simp only [Act.put, List.setIfInBounds_toArray, List.set_cons_zero, List.set_cons_succ]
        refine wpAnyH_done (by kernel_rfl) ?_ _
        go_wp2
        go_ret
        exact ⟨ret_bool HQ.out.symm, (HB.out.trans (Below.drew (Below.refl _ _))).trans (hb2.mono HB.out.size)⟩
      | true =>
        have HKY1 := HKY.out rfl
        clear HKN HKY
        cases k with
        | zero =>
          have HKY : Hid ((∀ i, i < 0 → sameK (atC L i) (atC L 0) = false) → okJ L 0 = true) := HKY1 (.inl rfl)
          clear HKY1 HSN
          rw [Nat.zero_mul] at c0 c1 c2 c3 c4 c5 c6 c7 c8 c9
          rw [Nat.zero_add] at c1
          rw [Nat.zero_add] at c2
          rw [Nat.zero_add] at c3
          rw [Nat.zero_add] at c4
          rw [Nat.zero_add] at c5
          rw [Nat.zero_add] at c6
          rw [Nat.zero_add] at c7
          rw [Nat.zero_add] at c8
          rw [Nat.zero_add] at c9
          generalize atC L 0 = y at *
          obtain ⟨na, va, ho, al, pa, se, mo, pt, un, ma⟩ := y
          unfold ckV at KC0
          dsimp only at *
          have KC : Hid (∀ W, Calls Tryz.prog 77 #[.agg #[.string na, .string va, .string ho, .bool al, .string pa, .bool se, .int .i64 mo, .string pt, .int .i64 un, .int .i64 ma]] W fun e w' => e = .returned (.bool true) ∧ Below W.heap.size W w') := KC0
          clear KC0
          have q2 : decide ((0 : Int) < ((0 : Nat) : Int)) = false := by decide
          go_wp2_with fail
          refine wp_region_held_drew (S := (fun w' => w'.cell? ⟨g, 0, none⟩ = some (.string na) ∧ w'.cell? ⟨g, 1, none⟩ = some (.string va) ∧ w'.cell? ⟨g, 2, none⟩ = some (.string ho) ∧ w'.cell? ⟨g, 3, none⟩ = some (.bool al) ∧ w'.cell? ⟨g, 4, none⟩ = some (.string pa) ∧ w'.cell? ⟨g, 5, none⟩ = some (.bool se) ∧ w'.cell? ⟨g, 6, none⟩ = some (.int .i64 mo) ∧ w'.cell? ⟨g, 7, none⟩ = some (.string pt) ∧ w'.cell? ⟨g, 8, none⟩ = some (.int .i64 un) ∧ w'.cell? ⟨g, 9, none⟩ = some (.int .i64 ma))) (by kernel_rfl) ?_ (fun hH0 => ?_)
          · (try dsimp only)
            go_keep
          refine wpAnyH_take (i := 0) (oi := { dst := some 11, op := Op.move (Operand.tmp 0), type := 34, pos := "l06_jar.go:18", after := #[], guard := none }) (v := ?vb0) rfl (by kernel_rfl) (by kernel_rfl) (by kernel_rfl) (fun _ _ _ h => h) (Or.inl ⟨by rfl, ?hyb0⟩) (by assumption) ?restb0
          case hyb0 =>
            intro w hSw
            (try dsimp only at hSw)
            go_simp
            try with_reducible rfl
          try simp only [Act.put, List.setIfInBounds_toArray, List.set_cons_zero, List.set_cons_succ]
          refine wpAnyH_take (i := 1) (oi := { dst := some 12, op := Op.move (Operand.tmp 3), type := 3, pos := "l06_jar.go:18", after := #[], guard := none }) (v := ?vb1) rfl (by kernel_rfl) (by kernel_rfl) (by kernel_rfl) (fun _ _ _ h => h) (Or.inl ⟨by rfl, ?hyb1⟩) (by assumption) ?restb1
          case hyb1 =>
            intro w hSw
            (try dsimp only at hSw)
            go_simp
            try with_reducible rfl
          try simp only [Act.put, List.setIfInBounds_toArray, List.set_cons_zero, List.set_cons_succ]
          refine wpAnyH_take (i := 2) (oi := { dst := some 13, op := Op.indexAddr 34 (Operand.tmp 11) (Operand.tmp 12), type := 0, pos := "l06_jar.go:18", after := #[{ on := 0, ground := Ground.data }, { on := 1, ground := Ground.data }], guard := none }) (v := ?vb2) rfl (by kernel_rfl) (by kernel_rfl) (by kernel_rfl) (fun _ _ _ h => h) (Or.inl ⟨by rfl, ?hyb2⟩) (by assumption) ?restb2
          case hyb2 =>
            intro w hSw
            (try dsimp only at hSw)
            go_simp
            try with_reducible rfl
          try simp only [Act.put, List.setIfInBounds_toArray, List.set_cons_zero, List.set_cons_succ]
          refine wpAnyH_take (i := 3) (oi := { dst := some 14, op := Op.load 125 (Operand.tmp 13), type := 125, pos := "l06_jar.go:18", after := #[{ on := 2, ground := Ground.data }], guard := none }) (v := ?vb3) rfl (by kernel_rfl) (by kernel_rfl) (by kernel_rfl) (fun _ _ _ h => h) (Or.inl ⟨by rfl, ?hyb3⟩) (by assumption) ?restb3
          case hyb3 =>
            intro w hSw
            (try dsimp only at hSw)
            go_simp
            try with_reducible rfl
          try simp only [Act.put, List.setIfInBounds_toArray, List.set_cons_zero, List.set_cons_succ]
          refine wpAnyH_ready (rs := [4]) (by kernel_rfl) (by simp) ?_
          refine AllReadyH.cons (o := { dst := some 15, op := Op.call { callee := Callee.value (Operand.func 77), args := #[Operand.tmp 14], argTypes := #[125] }, type := 4, pos := "l06_jar.go:18", after := #[{ on := 3, ground := Ground.data }], guard := none }) rfl (fun K hK => ?_) AllReadyH.nil
          go_simp
          (go_at_call 77; refine (KC.out _).mono ?_; rintro e w2 ⟨rfl, hb2⟩; have x0 : w2.cell? ⟨g, 0, none⟩ = some (.string na) := ((bcell hb2).1 _ _ hgr).trans c0; have x1 : w2.cell? ⟨g, 1, none⟩ = some (.string va) := ((bcell hb2).1 _ _ hgr).trans c1; have x2 : w2.cell? ⟨g, 2, none⟩ = some (.string ho) := ((bcell hb2).1 _ _ hgr).trans c2; have x3 : w2.cell? ⟨g, 3, none⟩ = some (.bool al) := ((bcell hb2).1 _ _ hgr).trans c3; have x4 : w2.cell? ⟨g, 4, none⟩ = some (.string pa) := ((bcell hb2).1 _ _ hgr).trans c4; have x5 : w2.cell? ⟨g, 5, none⟩ = some (.bool se) := ((bcell hb2).1 _ _ hgr).trans c5; have x6 : w2.cell? ⟨g, 6, none⟩ = some (.int .i64 mo) := ((bcell hb2).1 _ _ hgr).trans c6; have x7 : w2.cell? ⟨g, 7, none⟩ = some (.string pt) := ((bcell hb2).1 _ _ hgr).trans c7; have x8 : w2.cell? ⟨g, 8, none⟩ = some (.int .i64 un) := ((bcell hb2).1 _ _ hgr).trans c8; have x9 : w2.cell? ⟨g, 9, none⟩ = some (.int .i64 ma) := ((bcell hb2).1 _ _ hgr).trans c9)
          try (go_wp2_with fail)
          refine hK.out _ _ ?_ (fun hH1 => ?_)
          · (try dsimp only)
            go_keep
          clear hK K hH0
          try simp only [Act.put, List.setIfInBounds_toArray, List.set_cons_zero, List.set_cons_succ]
          refine wpAnyH_take (i := 5) (oi := { dst := some 16, op := Op.unOp UnOp.not 4 (Operand.tmp 15), type := 4, pos := "l06_jar.go:18", after := #[{ on := 4, ground := Ground.data }], guard := none }) (v := ?vb5) rfl (by kernel_rfl) (by kernel_rfl) (by kernel_rfl) (fun _ _ _ h => h) (Or.inl ⟨by rfl, ?hyb5⟩) (by assumption) ?restb5
          case hyb5 =>
            intro w hSw
            (try dsimp only at hSw)
            go_simp
            try with_reducible rfl
          try simp only [Act.put, List.setIfInBounds_toArray, List.set_cons_zero, List.set_cons_succ]
          refine wpAnyH_take (i := 6) (oi := { dst := some 17, op := Op.move (Operand.tmp 16), type := 4, pos := "l06_jar.go:18", after := #[{ on := 5, ground := Ground.data }, { on := 4, ground := Ground.chain }], guard := none }) (v := ?vb6) rfl (by kernel_rfl) (by kernel_rfl) (by kernel_rfl) (fun _ _ _ h => h) (Or.inl ⟨by rfl, ?hyb6⟩) (by assumption) ?restb6
          case hyb6 =>
            intro w hSw
            (try dsimp only at hSw)
            go_simp
            try with_reducible rfl
          try simp only [Act.put, List.setIfInBounds_toArray, List.set_cons_zero, List.set_cons_succ]
          refine wpAnyH_take (i := 7) (oi := { dst := some 18, op := Op.move (Operand.tmp 3), type := 3, pos := "l06_jar.go:18", after := #[{ on := 6, ground := Ground.guard }], guard := some (6, false) }) (v := ?vb7) rfl (by kernel_rfl) (by kernel_rfl) (by kernel_rfl) (fun _ _ _ h => h) (Or.inl ⟨by rfl, ?hyb7⟩) (by assumption) ?restb7
          case hyb7 =>
            intro w hSw
            (try dsimp only at hSw)
            go_simp
            try with_reducible rfl
          try simp only [Act.put, List.setIfInBounds_toArray, List.set_cons_zero, List.set_cons_succ]
          refine wpAnyH_take (i := 8) (oi := { dst := some 19, op := Op.binOp BinOp.gtr 3 (Operand.tmp 18) (Operand.const (Value.int IntKind.i64 0)) 3, type := 4, pos := "l06_jar.go:18", after := #[{ on := 7, ground := Ground.data }, { on := 6, ground := Ground.guard }], guard := some (6, false) }) (v := ?vb8) rfl (by kernel_rfl) (by kernel_rfl) (by kernel_rfl) (fun _ _ _ h => h) (Or.inl ⟨by rfl, ?hyb8⟩) (by assumption) ?restb8
          case hyb8 =>
            intro w hSw
            (try dsimp only at hSw)
            go_simp
            try with_reducible rfl
          try simp only [Act.put, List.setIfInBounds_toArray, List.set_cons_zero, List.set_cons_succ]
          refine wpAnyH_take (i := 9) (oi := { dst := some 20, op := Op.move (Operand.tmp 19), type := 4, pos := "l06_jar.go:18", after := #[{ on := 8, ground := Ground.data }, { on := 6, ground := Ground.chain }, { on := 6, ground := Ground.guard }], guard := some (6, false) }) (v := ?vb9) rfl (by kernel_rfl) (by kernel_rfl) (by kernel_rfl) (fun _ _ _ h => h) (Or.inl ⟨by rfl, ?hyb9⟩) (by assumption) ?restb9
          case hyb9 =>
            intro w hSw
            (try dsimp only at hSw)
            go_simp
            try with_reducible rfl
          try simp only [Act.put, List.setIfInBounds_toArray, List.set_cons_zero, List.set_cons_succ]
          refine wpAnyH_take (i := 10) (oi := { dst := some 21, op := Op.move (Operand.tmp 0), type := 34, pos := "l06_jar.go:18", after := #[{ on := 9, ground := Ground.guard }], guard := some (9, true) }) (v := undef) rfl (by kernel_rfl) (by kernel_rfl) (by kernel_rfl) (fun _ _ _ h => h) (Or.inr ⟨by rfl, rfl⟩) (by assumption) ?_
          try simp only [Act.put, List.setIfInBounds_toArray, List.set_cons_zero, List.set_cons_succ]
          refine wpAnyH_take (i := 11) (oi := { dst := some 22, op := Op.move (Operand.tmp 3), type := 3, pos := "l06_jar.go:18", after := #[{ on := 9, ground := Ground.guard }], guard := some (9, true) }) (v := undef) rfl (by kernel_rfl) (by kernel_rfl) (by kernel_rfl) (fun _ _ _ h => h) (Or.inr ⟨by rfl, rfl⟩) (by assumption) ?_
          try simp only [Act.put, List.setIfInBounds_toArray, List.set_cons_zero, List.set_cons_succ]
          refine wpAnyH_take (i := 12) (oi := { dst := some 23, op := Op.binOp BinOp.sub 3 (Operand.tmp 22) (Operand.const (Value.int IntKind.i64 1)) 3, type := 3, pos := "l06_jar.go:18", after := #[{ on := 11, ground := Ground.data }, { on := 9, ground := Ground.guard }], guard := some (9, true) }) (v := undef) rfl (by kernel_rfl) (by kernel_rfl) (by kernel_rfl) (fun _ _ _ h => h) (Or.inr ⟨by rfl, rfl⟩) (by assumption) ?_
          try simp only [Act.put, List.setIfInBounds_toArray, List.set_cons_zero, List.set_cons_succ]
          refine wpAnyH_take (i := 13) (oi := { dst := some 24, op := Op.indexAddr 34 (Operand.tmp 21) (Operand.tmp 23), type := 0, pos := "l06_jar.go:18", after := #[{ on := 10, ground := Ground.data }, { on := 12, ground := Ground.data }, { on := 9, ground := Ground.guard }], guard := some (9, true) }) (v := undef) rfl (by kernel_rfl) (by kernel_rfl) (by kernel_rfl) (fun _ _ _ h => h) (Or.inr ⟨by rfl, rfl⟩) (by assumption) ?_
          try simp only [Act.put, List.setIfInBounds_toArray, List.set_cons_zero, List.set_cons_succ]
          refine wpAnyH_take (i := 14) (oi := { dst := some 25, op := Op.fieldAddr 125 (Operand.tmp 24) 9, type := 0, pos := "l06_jar.go:18", after := #[{ on := 13, ground := Ground.data }, { on := 9, ground := Ground.guard }], guard := some (9, true) }) (v := undef) rfl (by kernel_rfl) (by kernel_rfl) (by kernel_rfl) (fun _ _ _ h => h) (Or.inr ⟨by rfl, rfl⟩) (by assumption) ?_
          try simp only [Act.put, List.setIfInBounds_toArray, List.set_cons_zero, List.set_cons_succ]
          refine wpAnyH_take (i := 15) (oi := { dst := some 26, op := Op.load 2 (Operand.tmp 25), type := 2, pos := "l06_jar.go:18", after := #[{ on := 14, ground := Ground.data }, { on := 9, ground := Ground.guard }], guard := some (9, true) }) (v := undef) rfl (by kernel_rfl) (by kernel_rfl) (by kernel_rfl) (fun _ _ _ h => h) (Or.inr ⟨by rfl, rfl⟩) (by assumption) ?_
          try simp only [Act.put, List.setIfInBounds_toArray, List.set_cons_zero, List.set_cons_succ]
          refine wpAnyH_take (i := 16) (oi := { dst := some 27, op := Op.move (Operand.tmp 0), type := 34, pos := "l06_jar.go:18", after := #[{ on := 9, ground := Ground.guard }], guard := some (9, true) }) (v := undef) rfl (by kernel_rfl) (by kernel_rfl) (by kernel_rfl) (fun _ _ _ h => h) (Or.inr ⟨by rfl, rfl⟩) (by assumption) ?_
          try simp only [Act.put, List.setIfInBounds_toArray, List.set_cons_zero, List.set_cons_succ]
          refine wpAnyH_take (i := 17) (oi := { dst := some 28, op := Op.move (Operand.tmp 3), type := 3, pos := "l06_jar.go:18", after := #[{ on := 9, ground := Ground.guard }], guard := some (9, true) }) (v := undef) rfl (by kernel_rfl) (by kernel_rfl) (by kernel_rfl) (fun _ _ _ h => h) (Or.inr ⟨by rfl, rfl⟩) (by assumption) ?_
          try simp only [Act.put, List.setIfInBounds_toArray, List.set_cons_zero, List.set_cons_succ]
          refine wpAnyH_take (i := 18) (oi := { dst := some 29, op := Op.indexAddr 34 (Operand.tmp 27) (Operand.tmp 28), type := 0, pos := "l06_jar.go:18", after := #[{ on := 16, ground := Ground.data }, { on := 17, ground := Ground.data }, { on := 9, ground := Ground.guard }], guard := some (9, true) }) (v := undef) rfl (by kernel_rfl) (by kernel_rfl) (by kernel_rfl) (fun _ _ _ h => h) (Or.inr ⟨by rfl, rfl⟩) (by assumption) ?_
          try simp only [Act.put, List.setIfInBounds_toArray, List.set_cons_zero, List.set_cons_succ]
          refine wpAnyH_take (i := 19) (oi := { dst := some 30, op := Op.fieldAddr 125 (Operand.tmp 29) 9, type := 0, pos := "l06_jar.go:18", after := #[{ on := 18, ground := Ground.data }, { on := 9, ground := Ground.guard }], guard := some (9, true) }) (v := undef) rfl (by kernel_rfl) (by kernel_rfl) (by kernel_rfl) (fun _ _ _ h => h) (Or.inr ⟨by rfl, rfl⟩) (by assumption) ?_
          try simp only [Act.put, List.setIfInBounds_toArray, List.set_cons_zero, List.set_cons_succ]
          refine wpAnyH_take (i := 20) (oi := { dst := some 31, op := Op.load 2 (Operand.tmp 30), type := 2, pos := "l06_jar.go:18", after := #[{ on := 19, ground := Ground.data }, { on := 9, ground := Ground.guard }], guard := some (9, true) }) (v := undef) rfl (by kernel_rfl) (by kernel_rfl) (by kernel_rfl) (fun _ _ _ h => h) (Or.inr ⟨by rfl, rfl⟩) (by assumption) ?_
          try simp only [Act.put, List.setIfInBounds_toArray, List.set_cons_zero, List.set_cons_succ]
          refine wpAnyH_take (i := 21) (oi := { dst := some 32, op := Op.binOp BinOp.geq 2 (Operand.tmp 26) (Operand.tmp 31) 2, type := 4, pos := "l06_jar.go:18", after := #[{ on := 15, ground := Ground.data }, { on := 20, ground := Ground.data }, { on := 9, ground := Ground.guard }], guard := some (9, true) }) (v := undef) rfl (by kernel_rfl) (by kernel_rfl) (by kernel_rfl) (fun _ _ _ h => h) (Or.inr ⟨by rfl, rfl⟩) (by assumption) ?_
          try simp only [Act.put, List.setIfInBounds_toArray, List.set_cons_zero, List.set_cons_succ]
          refine wpAnyH_take (i := 22) (oi := { dst := some 33, op := Op.pick (Operand.tmp 20) (Operand.tmp 32) (Operand.const (Value.bool false)), type := 4, pos := "l06_jar.go:18", after := #[{ on := 9, ground := Ground.data }, { on := 21, ground := Ground.data }, { on := 6, ground := Ground.guard }], guard := some (6, false) }) (v := ?vb22) rfl (by kernel_rfl) (by kernel_rfl) (by kernel_rfl) (fun _ _ _ h => h) (Or.inl ⟨by rfl, ?hyb22⟩) (by assumption) ?restb22
          case hyb22 =>
            intro w hSw
            (try dsimp only at hSw)
            go_simp
            try with_reducible rfl
          try simp only [Act.put, List.setIfInBounds_toArray, List.set_cons_zero, List.set_cons_succ]
          refine wpAnyH_take (i := 23) (oi := { dst := some 34, op := Op.pick (Operand.tmp 17) (Operand.const (Value.bool true)) (Operand.tmp 33), type := 4, pos := "l06_jar.go:18", after := #[{ on := 6, ground := Ground.data }, { on := 22, ground := Ground.data }], guard := none }) (v := ?vb23) rfl (by kernel_rfl) (by kernel_rfl) (by kernel_rfl) (fun _ _ _ h => h) (Or.inl ⟨by rfl, ?hyb23⟩) (by assumption) ?restb23
          case hyb23 =>
            intro w hSw
            (try dsimp only at hSw)
            go_simp
            try with_reducible rfl
          try simp only [Act.put, List.setIfInBounds_toArray, List.set_cons_zero, List.set_cons_succ]
          refine wpAnyH_done (by kernel_rfl) ?_ _
          have B2 : Hid (Below w.heap.size w w2) := (HB.out.trans (Below.drew (Below.refl _ _))).trans (hb2.mono HB.out.size)
          have hg2 : g < w2.heap.size := Nat.lt_of_lt_of_le hgr (Nat.le_trans (Below.drew (Below.refl wr.heap.size wr)).size hb2.size)
          clear hb2
          go_wp2
          go_loopw [4] (fun i w3 => ∃ j : Nat, j ≤ 0 ∧ i = .int .i64 j ∧ Hid (Below w2.heap.size w2 w3) ∧ Hid (∀ i', i' < j → sameK (atC L i') ⟨na, va, ho, al, pa, se, mo, pt, un, ma⟩ = false)) (fun i _ => 0 - (intOf i).toNat)
          case atStart => exact ⟨0, Nat.zero_le _, rfl, Below.refl _ _, fun j hj => absurd hj (by omega)⟩
          case round =>
            obtain ⟨j, hj, rfl, HB3, HR3⟩ := hrel
            obtain rfl : j = 0 := by omega
            have HK2 : Hid (okJ L 0 = true) := HKY.out (fun k hk => absurd hk (by omega))
            go_wp2
            go_roundw
            case rel => exact ⟨1, by omega, by go_num, B2.out.trans (HB3.out.mono B2.out.size), okJ_succ (k := 0) (fun i hi => absurd hi (by omega)) HK2.out⟩
            case measure => simp [intOf]; omega
        | succ m =>
          have cm0 : wr.cell? ⟨g, m * 10 + 9, none⟩ = some (.int .i64 (atC L m).ma) := by rw [(bcell HB.out).1 _ _ hgw]; exact HC.out m (by omega) 9 (by omega)
          have HMN : Hid (¬ (atC L m).ma < (atC L (m + 1)).ma → R = false) := fun e => HN.out (m + 1) hlt (okJ_made e)
          have HKY2 : Hid ((atC L m).ma < (atC L (m + 1)).ma → (∀ i, i < m + 1 → sameK (atC L i) (atC L (m + 1)) = false) → okJ L (m + 1) = true) := fun a => HKY1 (.inr a)
          clear HKY1
          generalize hpm : (atC L m).ma = pm at *
          clear hpm
          have q2 : decide ((0 : Int) < ((m : Int) + 1)) = true := by rw [decide_eq_true_iff]; omega
          have hw1 : IntKind.i64.wrap ((m : Int) + 1 - 1) = m := by
            rw [IntKind.wrap_i64]; omega
          have hw2 : IntKind.i64.wrap (m : Int) = m := by rw [IntKind.wrap_i64]; omega
          have p0 : (0 : Int) ≤ (m : Int) + 1 := by omega
          have p1 : (m : Int) + 1 < L.length := by omega
          have m0 : (0 : Int) ≤ m := by omega
          have m1 : (m : Int) < L.length := by omega
          generalize atC L (m + 1) = y at *
          obtain ⟨na, va, ho, al, pa, se, mo, pt, un, ma⟩ := y
          unfold ckV at KC0
          dsimp only at *
          have KC : Hid (∀ W, Calls Tryz.prog 77 #[.agg #[.string na, .string va, .string ho, .bool al, .string pa, .bool se, .int .i64 mo, .string pt, .int .i64 un, .int .i64 ma]] W fun e w' => e = .returned (.bool true) ∧ Below W.heap.size W w') := KC0
          have cm : wr.cell? ⟨g, m * 10 + 9, none⟩ = some (.int .i64 pm) := cm0
          clear KC0 cm0
          by_cases hlm : pm < ma
          · have qg : decide (ma ≤ pm) = false := by rw [decide_eq_false_iff_not]; omega
            have HKY : Hid ((∀ i, i < m + 1 → sameK (atC L i) ⟨na, va, ho, al, pa, se, mo, pt, un, ma⟩ = false) → okJ L (m + 1) = true) := HKY2.out hlm
            clear HKY2 HMN
            go_wp2_with fail
            refine wp_region_held_drew (S := (fun w' => w'.cell? ⟨g, (m + 1) * 10, none⟩ = some (.string na) ∧ w'.cell? ⟨g, (m + 1) * 10 + 1, none⟩ = some (.string va) ∧ w'.cell? ⟨g, (m + 1) * 10 + 2, none⟩ = some (.string ho) ∧ w'.cell? ⟨g, (m + 1) * 10 + 3, none⟩ = some (.bool al) ∧ w'.cell? ⟨g, (m + 1) * 10 + 4, none⟩ = some (.string pa) ∧ w'.cell? ⟨g, (m + 1) * 10 + 5, none⟩ = some (.bool se) ∧ w'.cell? ⟨g, (m + 1) * 10 + 6, none⟩ = some (.int .i64 mo) ∧ w'.cell? ⟨g, (m + 1) * 10 + 7, none⟩ = some (.string pt) ∧ w'.cell? ⟨g, (m + 1) * 10 + 8, none⟩ = some (.int .i64 un) ∧ w'.cell? ⟨g, (m + 1) * 10 + 9, none⟩ = some (.int .i64 ma) ∧ w'.cell? ⟨g, m * 10 + 9, none⟩ = some (.int .i64 pm))) (by kernel_rfl) ?_ (fun hH0 => ?_)
            · (try dsimp only)
              go_keep
            refine wpAnyH_take (i := 0) (oi := { dst := some 11, op := Op.move (Operand.tmp 0), type := 34, pos := "l06_jar.go:18", after := #[], guard := none }) (v := ?vc0) rfl (by kernel_rfl) (by kernel_rfl) (by kernel_rfl) (fun _ _ _ h => h) (Or.inl ⟨by rfl, ?hyc0⟩) (by assumption) ?restc0
            case hyc0 =>
              intro w hSw
              (try dsimp only at hSw)
              go_simp
              try with_reducible rfl
            try simp only [Act.put, List.setIfInBounds_toArray, List.set_cons_zero, List.set_cons_succ]
            refine wpAnyH_take (i := 1) (oi := { dst := some 12, op := Op.move (Operand.tmp 3), type := 3, pos := "l06_jar.go:18", after := #[], guard := none }) (v := ?vc1) rfl (by kernel_rfl) (by kernel_rfl) (by kernel_rfl) (fun _ _ _ h => h) (Or.inl ⟨by rfl, ?hyc1⟩) (by assumption) ?restc1
            case hyc1 =>
              intro w hSw
              (try dsimp only at hSw)
              go_simp
              try with_reducible rfl
            try simp only [Act.put, List.setIfInBounds_toArray, List.set_cons_zero, List.set_cons_succ]
            refine wpAnyH_take (i := 2) (oi := { dst := some 13, op := Op.indexAddr 34 (Operand.tmp 11) (Operand.tmp 12), type := 0, pos := "l06_jar.go:18", after := #[{ on := 0, ground := Ground.data }, { on := 1, ground := Ground.data }], guard := none }) (v := ?vc2) rfl (by kernel_rfl) (by kernel_rfl) (by kernel_rfl) (fun _ _ _ h => h) (Or.inl ⟨by rfl, ?hyc2⟩) (by assumption) ?restc2
            case hyc2 =>
              intro w hSw
              (try dsimp only at hSw)
              go_simp
              try with_reducible rfl
            try simp only [Act.put, List.setIfInBounds_toArray, List.set_cons_zero, List.set_cons_succ]
            refine wpAnyH_take (i := 3) (oi := { dst := some 14, op := Op.load 125 (Operand.tmp 13), type := 125, pos := "l06_jar.go:18", after := #[{ on := 2, ground := Ground.data }], guard := none }) (v := ?vc3) rfl (by kernel_rfl) (by kernel_rfl) (by kernel_rfl) (fun _ _ _ h => h) (Or.inl ⟨by rfl, ?hyc3⟩) (by assumption) ?restc3
            case hyc3 =>
              intro w hSw
              (try dsimp only at hSw)
              go_simp
              try with_reducible rfl
            try simp only [Act.put, List.setIfInBounds_toArray, List.set_cons_zero, List.set_cons_succ]
            refine wpAnyH_ready (rs := [4]) (by kernel_rfl) (by simp) ?_
            refine AllReadyH.cons (o := { dst := some 15, op := Op.call { callee := Callee.value (Operand.func 77), args := #[Operand.tmp 14], argTypes := #[125] }, type := 4, pos := "l06_jar.go:18", after := #[{ on := 3, ground := Ground.data }], guard := none }) rfl (fun K hK => ?_) AllReadyH.nil
            go_simp
            (go_at_call 77; refine (KC.out _).mono ?_; rintro e w2 ⟨rfl, hb2⟩; have x0 : w2.cell? ⟨g, (m + 1) * 10, none⟩ = some (.string na) := ((bcell hb2).1 _ _ hgr).trans c0; have x1 : w2.cell? ⟨g, (m + 1) * 10 + 1, none⟩ = some (.string va) := ((bcell hb2).1 _ _ hgr).trans c1; have x2 : w2.cell? ⟨g, (m + 1) * 10 + 2, none⟩ = some (.string ho) := ((bcell hb2).1 _ _ hgr).trans c2; have x3 : w2.cell? ⟨g, (m + 1) * 10 + 3, none⟩ = some (.bool al) := ((bcell hb2).1 _ _ hgr).trans c3; have x4 : w2.cell? ⟨g, (m + 1) * 10 + 4, none⟩ = some (.string pa) := ((bcell hb2).1 _ _ hgr).trans c4; have x5 : w2.cell? ⟨g, (m + 1) * 10 + 5, none⟩ = some (.bool se) := ((bcell hb2).1 _ _ hgr).trans c5; have x6 : w2.cell? ⟨g, (m + 1) * 10 + 6, none⟩ = some (.int .i64 mo) := ((bcell hb2).1 _ _ hgr).trans c6; have x7 : w2.cell? ⟨g, (m + 1) * 10 + 7, none⟩ = some (.string pt) := ((bcell hb2).1 _ _ hgr).trans c7; have x8 : w2.cell? ⟨g, (m + 1) * 10 + 8, none⟩ = some (.int .i64 un) := ((bcell hb2).1 _ _ hgr).trans c8; have x9 : w2.cell? ⟨g, (m + 1) * 10 + 9, none⟩ = some (.int .i64 ma) := ((bcell hb2).1 _ _ hgr).trans c9; have xm : w2.cell? ⟨g, m * 10 + 9, none⟩ = some (.int .i64 pm) := ((bcell hb2).1 _ _ hgr).trans cm)
            try (go_wp2_with fail)
            refine hK.out _ _ ?_ (fun hH1 => ?_)
            · (try dsimp only)
              go_keep
            clear hK K hH0
            try simp only [Act.put, List.setIfInBounds_toArray, List.set_cons_zero, List.set_cons_succ]
            refine wpAnyH_take (i := 5) (oi := { dst := some 16, op := Op.unOp UnOp.not 4 (Operand.tmp 15), type := 4, pos := "l06_jar.go:18", after := #[{ on := 4, ground := Ground.data }], guard := none }) (v := ?vc5) rfl (by kernel_rfl) (by kernel_rfl) (by kernel_rfl) (fun _ _ _ h => h) (Or.inl ⟨by rfl, ?hyc5⟩) (by assumption) ?restc5
            case hyc5 =>
              intro w hSw
              (try dsimp only at hSw)
              go_simp
              try with_reducible rfl
            try simp only [Act.put, List.setIfInBounds_toArray, List.set_cons_zero, List.set_cons_succ]
            refine wpAnyH_take (i := 6) (oi := { dst := some 17, op := Op.move (Operand.tmp 16), type := 4, pos := "l06_jar.go:18", after := #[{ on := 5, ground := Ground.data }, { on := 4, ground := Ground.chain }], guard := none }) (v := ?vc6) rfl (by kernel_rfl) (by kernel_rfl) (by kernel_rfl) (fun _ _ _ h => h) (Or.inl ⟨by rfl, ?hyc6⟩) (by assumption) ?restc6
            case hyc6 =>
              intro w hSw
              (try dsimp only at hSw)
              go_simp
              try with_reducible rfl
            try simp only [Act.put, List.setIfInBounds_toArray, List.set_cons_zero, List.set_cons_succ]
            refine wpAnyH_take (i := 7) (oi := { dst := some 18, op := Op.move (Operand.tmp 3), type := 3, pos := "l06_jar.go:18", after := #[{ on := 6, ground := Ground.guard }], guard := some (6, false) }) (v := ?vc7) rfl (by kernel_rfl) (by kernel_rfl) (by kernel_rfl) (fun _ _ _ h => h) (Or.inl ⟨by rfl, ?hyc7⟩) (by assumption) ?restc7
            case hyc7 =>
              intro w hSw
              (try dsimp only at hSw)
              go_simp
              try with_reducible rfl
            try simp only [Act.put, List.setIfInBounds_toArray, List.set_cons_zero, List.set_cons_succ]
            refine wpAnyH_take (i := 8) (oi := { dst := some 19, op := Op.binOp BinOp.gtr 3 (Operand.tmp 18) (Operand.const (Value.int IntKind.i64 0)) 3, type := 4, pos := "l06_jar.go:18", after := #[{ on := 7, ground := Ground.data }, { on := 6, ground := Ground.guard }], guard := some (6, false) }) (v := ?vc8) rfl (by kernel_rfl) (by kernel_rfl) (by kernel_rfl) (fun _ _ _ h => h) (Or.inl ⟨by rfl, ?hyc8⟩) (by assumption) ?restc8
            case hyc8 =>
              intro w hSw
              (try dsimp only at hSw)
              go_simp
              try with_reducible rfl
            try simp only [Act.put, List.setIfInBounds_toArray, List.set_cons_zero, List.set_cons_succ]
            refine wpAnyH_take (i := 9) (oi := { dst := some 20, op := Op.move (Operand.tmp 19), type := 4, pos := "l06_jar.go:18", after := #[{ on := 8, ground := Ground.data }, { on := 6, ground := Ground.chain }, { on := 6, ground := Ground.guard }], guard := some (6, false) }) (v := ?vc9) rfl (by kernel_rfl) (by kernel_rfl) (by kernel_rfl) (fun _ _ _ h => h) (Or.inl ⟨by rfl, ?hyc9⟩) (by assumption) ?restc9
            case hyc9 =>
              intro w hSw
              (try dsimp only at hSw)
              go_simp
              try with_reducible rfl
            try simp only [Act.put, List.setIfInBounds_toArray, List.set_cons_zero, List.set_cons_succ]
            refine wpAnyH_take (i := 10) (oi := { dst := some 21, op := Op.move (Operand.tmp 0), type := 34, pos := "l06_jar.go:18", after := #[{ on := 9, ground := Ground.guard }], guard := some (9, true) }) (v := ?vc10) rfl (by kernel_rfl) (by kernel_rfl) (by kernel_rfl) (fun _ _ _ h => h) (Or.inl ⟨by rfl, ?hyc10⟩) (by assumption) ?restc10
            case hyc10 =>
              intro w hSw
              (try dsimp only at hSw)
              go_simp
              try with_reducible rfl
            try simp only [Act.put, List.setIfInBounds_toArray, List.set_cons_zero, List.set_cons_succ]
            refine wpAnyH_take (i := 11) (oi := { dst := some 22, op := Op.move (Operand.tmp 3), type := 3, pos := "l06_jar.go:18", after := #[{ on := 9, ground := Ground.guard }], guard := some (9, true) }) (v := ?vc11) rfl (by kernel_rfl) (by kernel_rfl) (by kernel_rfl) (fun _ _ _ h => h) (Or.inl ⟨by rfl, ?hyc11⟩) (by assumption) ?restc11
            case hyc11 =>
              intro w hSw
              (try dsimp only at hSw)
              go_simp
              try with_reducible rfl
            try simp only [Act.put, List.setIfInBounds_toArray, List.set_cons_zero, List.set_cons_succ]
            refine wpAnyH_take (i := 12) (oi := { dst := some 23, op := Op.binOp BinOp.sub 3 (Operand.tmp 22) (Operand.const (Value.int IntKind.i64 1)) 3, type := 3, pos := "l06_jar.go:18", after := #[{ on := 11, ground := Ground.data }, { on := 9, ground := Ground.guard }], guard := some (9, true) }) (v := ?vc12) rfl (by kernel_rfl) (by kernel_rfl) (by kernel_rfl) (fun _ _ _ h => h) (Or.inl ⟨by rfl, ?hyc12⟩) (by assumption) ?restc12
            case hyc12 =>
              intro w hSw
              (try dsimp only at hSw)
              go_simp
              try with_reducible rfl
            try simp only [Act.put, List.setIfInBounds_toArray, List.set_cons_zero, List.set_cons_succ]
            refine wpAnyH_take (i := 13) (oi := { dst := some 24, op := Op.indexAddr 34 (Operand.tmp 21) (Operand.tmp 23), type := 0, pos := "l06_jar.go:18", after := #[{ on := 10, ground := Ground.data }, { on := 12, ground := Ground.data }, { on := 9, ground := Ground.guard }], guard := some (9, true) }) (v := ?vc13) rfl (by kernel_rfl) (by kernel_rfl) (by kernel_rfl) (fun _ _ _ h => h) (Or.inl ⟨by rfl, ?hyc13⟩) (by assumption) ?restc13
            case hyc13 =>
              intro w hSw
              (try dsimp only at hSw)
              go_simp
              try with_reducible rfl
            try simp only [Act.put, List.setIfInBounds_toArray, List.set_cons_zero, List.set_cons_succ]
            refine wpAnyH_take (i := 14) (oi := { dst := some 25, op := Op.fieldAddr 125 (Operand.tmp 24) 9, type := 0, pos := "l06_jar.go:18", after := #[{ on := 13, ground := Ground.data }, { on := 9, ground := Ground.guard }], guard := some (9, true) }) (v := ?vc14) rfl (by kernel_rfl) (by kernel_rfl) (by kernel_rfl) (fun _ _ _ h => h) (Or.inl ⟨by rfl, ?hyc14⟩) (by assumption) ?restc14
            case hyc14 =>
              intro w hSw
              (try dsimp only at hSw)
              go_simp
              try with_reducible rfl
            try simp only [Act.put, List.setIfInBounds_toArray, List.set_cons_zero, List.set_cons_succ]
            refine wpAnyH_take (i := 15) (oi := { dst := some 26, op := Op.load 2 (Operand.tmp 25), type := 2, pos := "l06_jar.go:18", after := #[{ on := 14, ground := Ground.data }, { on := 9, ground := Ground.guard }], guard := some (9, true) }) (v := ?vc15) rfl (by kernel_rfl) (by kernel_rfl) (by kernel_rfl) (fun _ _ _ h => h) (Or.inl ⟨by rfl, ?hyc15⟩) (by assumption) ?restc15
            case hyc15 =>
              intro w hSw
              (try dsimp only at hSw)
              go_simp
              try with_reducible rfl
            try simp only [Act.put, List.setIfInBounds_toArray, List.set_cons_zero, List.set_cons_succ]
            refine wpAnyH_take (i := 16) (oi := { dst := some 27, op := Op.move (Operand.tmp 0), type := 34, pos := "l06_jar.go:18", after := #[{ on := 9, ground := Ground.guard }], guard := some (9, true) }) (v := ?vc16) rfl (by kernel_rfl) (by kernel_rfl) (by kernel_rfl) (fun _ _ _ h => h) (Or.inl ⟨by rfl, ?hyc16⟩) (by assumption) ?restc16
            case hyc16 =>
              intro w hSw
              (try dsimp only at hSw)
              go_simp
              try with_reducible rfl
            try simp only [Act.put, List.setIfInBounds_toArray, List.set_cons_zero, List.set_cons_succ]
            refine wpAnyH_take (i := 17) (oi := { dst := some 28, op := Op.move (Operand.tmp 3), type := 3, pos := "l06_jar.go:18", after := #[{ on := 9, ground := Ground.guard }], guard := some (9, true) }) (v := ?vc17) rfl (by kernel_rfl) (by kernel_rfl) (by kernel_rfl) (fun _ _ _ h => h) (Or.inl ⟨by rfl, ?hyc17⟩) (by assumption) ?restc17
            case hyc17 =>
              intro w hSw
              (try dsimp only at hSw)
              go_simp
              try with_reducible rfl
            try simp only [Act.put, List.setIfInBounds_toArray, List.set_cons_zero, List.set_cons_succ]
            refine wpAnyH_take (i := 18) (oi := { dst := some 29, op := Op.indexAddr 34 (Operand.tmp 27) (Operand.tmp 28), type := 0, pos := "l06_jar.go:18", after := #[{ on := 16, ground := Ground.data }, { on := 17, ground := Ground.data }, { on := 9, ground := Ground.guard }], guard := some (9, true) }) (v := ?vc18) rfl (by kernel_rfl) (by kernel_rfl) (by kernel_rfl) (fun _ _ _ h => h) (Or.inl ⟨by rfl, ?hyc18⟩) (by assumption) ?restc18
            case hyc18 =>
              intro w hSw
              (try dsimp only at hSw)
              go_simp
              try with_reducible rfl
            try simp only [Act.put, List.setIfInBounds_toArray, List.set_cons_zero, List.set_cons_succ]
            refine wpAnyH_take (i := 19) (oi := { dst := some 30, op := Op.fieldAddr 125 (Operand.tmp 29) 9, type := 0, pos := "l06_jar.go:18", after := #[{ on := 18, ground := Ground.data }, { on := 9, ground := Ground.guard }], guard := some (9, true) }) (v := ?vc19) rfl (by kernel_rfl) (by kernel_rfl) (by kernel_rfl) (fun _ _ _ h => h) (Or.inl ⟨by rfl, ?hyc19⟩) (by assumption) ?restc19
            case hyc19 =>
              intro w hSw
              (try dsimp only at hSw)
              go_simp
              try with_reducible rfl
            try simp only [Act.put, List.setIfInBounds_toArray, List.set_cons_zero, List.set_cons_succ]
            refine wpAnyH_take (i := 20) (oi := { dst := some 31, op := Op.load 2 (Operand.tmp 30), type := 2, pos := "l06_jar.go:18", after := #[{ on := 19, ground := Ground.data }, { on := 9, ground := Ground.guard }], guard := some (9, true) }) (v := ?vc20) rfl (by kernel_rfl) (by kernel_rfl) (by kernel_rfl) (fun _ _ _ h => h) (Or.inl ⟨by rfl, ?hyc20⟩) (by assumption) ?restc20
            case hyc20 =>
              intro w hSw
              (try dsimp only at hSw)
              go_simp
              try with_reducible rfl
            try simp only [Act.put, List.setIfInBounds_toArray, List.set_cons_zero, List.set_cons_succ]
            refine wpAnyH_take (i := 21) (oi := { dst := some 32, op := Op.binOp BinOp.geq 2 (Operand.tmp 26) (Operand.tmp 31) 2, type := 4, pos := "l06_jar.go:18", after := #[{ on := 15, ground := Ground.data }, { on := 20, ground := Ground.data }, { on := 9, ground := Ground.guard }], guard := some (9, true) }) (v := ?vc21) rfl (by kernel_rfl) (by kernel_rfl) (by kernel_rfl) (fun _ _ _ h => h) (Or.inl ⟨by rfl, ?hyc21⟩) (by assumption) ?restc21
            case hyc21 =>
              intro w hSw
              (try dsimp only at hSw)
              go_simp
              try with_reducible rfl
            try simp only [Act.put, List.setIfInBounds_toArray, List.set_cons_zero, List.set_cons_succ]
            refine wpAnyH_take (i := 22) (oi := { dst := some 33, op := Op.pick (Operand.tmp 20) (Operand.tmp 32) (Operand.const (Value.bool false)), type := 4, pos := "l06_jar.go:18", after := #[{ on := 9, ground := Ground.data }, { on := 21, ground := Ground.data }, { on := 6, ground := Ground.guard }], guard := some (6, false) }) (v := ?vc22) rfl (by kernel_rfl) (by kernel_rfl) (by kernel_rfl) (fun _ _ _ h => h) (Or.inl ⟨by rfl, ?hyc22⟩) (by assumption) ?restc22
            case hyc22 =>
              intro w hSw
              (try dsimp only at hSw)
              go_simp
              try with_reducible rfl
            try simp only [Act.put, List.setIfInBounds_toArray, List.set_cons_zero, List.set_cons_succ]
            refine wpAnyH_take (i := 23) (oi := { dst := some 34, op := Op.pick (Operand.tmp 17) (Operand.const (Value.bool true)) (Operand.tmp 33), type := 4, pos := "l06_jar.go:18", after := #[{ on := 6, ground := Ground.data }, { on := 22, ground := Ground.data }], guard := none }) (v := ?vc23) rfl (by kernel_rfl) (by kernel_rfl) (by kernel_rfl) (fun _ _ _ h => h) (Or.inl ⟨by rfl, ?hyc23⟩) (by assumption) ?restc23
            case hyc23 =>
              intro w hSw
              (try dsimp only at hSw)
              go_simp
              try with_reducible rfl
            try simp only [Act.put, List.setIfInBounds_toArray, List.set_cons_zero, List.set_cons_succ]
            refine wpAnyH_done (by kernel_rfl) ?_ _
            have B2 : Hid (Below w.heap.size w w2) := (HB.out.trans (Below.drew (Below.refl _ _))).trans (hb2.mono HB.out.size)
            have hg2 : g < w2.heap.size := Nat.lt_of_lt_of_le hgr (Nat.le_trans (Below.drew (Below.refl wr.heap.size wr)).size hb2.size)
            clear hb2
            go_wp2
            go_loopw [4] (fun i w3 => ∃ j : Nat, j ≤ (m + 1) ∧ i = .int .i64 j ∧ Hid (Below w2.heap.size w2 w3) ∧ Hid (∀ i', i' < j → sameK (atC L i') ⟨na, va, ho, al, pa, se, mo, pt, un, ma⟩ = false)) (fun i _ => (m + 1) - (intOf i).toNat)
            case atStart => exact ⟨0, Nat.zero_le _, rfl, Below.refl _ _, fun j hj => absurd hj (by omega)⟩
            case round =>
              obtain ⟨j, hj, rfl, HB3, HR3⟩ := hrel
              by_cases hjl : j < m + 1
              · have j0 : (0 : Int) ≤ j := by omega
                have j1 : (j : Int) < L.length := by omega
                have j2 : (j : Int) < (m : Int) + 1 := by omega
                have hg3 : g < wr.heap.size := Nat.lt_of_lt_of_le hg2 HB3.out.size
                have y0 : wr.cell? ⟨g, (m + 1) * 10, none⟩ = some (.string na) := ((bcell HB3.out).1 _ _ hg2).trans x0
                have y1 : wr.cell? ⟨g, (m + 1) * 10 + 1, none⟩ = some (.string va) := ((bcell HB3.out).1 _ _ hg2).trans x1
                have y2 : wr.cell? ⟨g, (m + 1) * 10 + 2, none⟩ = some (.string ho) := ((bcell HB3.out).1 _ _ hg2).trans x2
                have y3 : wr.cell? ⟨g, (m + 1) * 10 + 3, none⟩ = some (.bool al) := ((bcell HB3.out).1 _ _ hg2).trans x3
                have y4 : wr.cell? ⟨g, (m + 1) * 10 + 4, none⟩ = some (.string pa) := ((bcell HB3.out).1 _ _ hg2).trans x4
                have y5 : wr.cell? ⟨g, (m + 1) * 10 + 5, none⟩ = some (.bool se) := ((bcell HB3.out).1 _ _ hg2).trans x5
                have y6 : wr.cell? ⟨g, (m + 1) * 10 + 6, none⟩ = some (.int .i64 mo) := ((bcell HB3.out).1 _ _ hg2).trans x6
                have y7 : wr.cell? ⟨g, (m + 1) * 10 + 7, none⟩ = some (.string pt) := ((bcell HB3.out).1 _ _ hg2).trans x7
                have y8 : wr.cell? ⟨g, (m + 1) * 10 + 8, none⟩ = some (.int .i64 un) := ((bcell HB3.out).1 _ _ hg2).trans x8
                have y9 : wr.cell? ⟨g, (m + 1) * 10 + 9, none⟩ = some (.int .i64 ma) := ((bcell HB3.out).1 _ _ hg2).trans x9
                have z0 : wr.cell? ⟨g, j * 10, none⟩ = some (.string (atC L j).na) := ((bcell (B2.out.trans (HB3.out.mono B2.out.size))).1 _ _ hgw).trans (HC.out j (by omega) 0 (by omega))
                have z1 : wr.cell? ⟨g, j * 10 + 1, none⟩ = some (.string (atC L j).va) := ((bcell (B2.out.trans (HB3.out.mono B2.out.size))).1 _ _ hgw).trans (HC.out j (by omega) 1 (by omega))
                have z2 : wr.cell? ⟨g, j * 10 + 2, none⟩ = some (.string (atC L j).ho) := ((bcell (B2.out.trans (HB3.out.mono B2.out.size))).1 _ _ hgw).trans (HC.out j (by omega) 2 (by omega))
                have z3 : wr.cell? ⟨g, j * 10 + 3, none⟩ = some (.bool (atC L j).al) := ((bcell (B2.out.trans (HB3.out.mono B2.out.size))).1 _ _ hgw).trans (HC.out j (by omega) 3 (by omega))
                have z4 : wr.cell? ⟨g, j * 10 + 4, none⟩ = some (.string (atC L j).pa) := ((bcell (B2.out.trans (HB3.out.mono B2.out.size))).1 _ _ hgw).trans (HC.out j (by omega) 4 (by omega))
                have z5 : wr.cell? ⟨g, j * 10 + 5, none⟩ = some (.bool (atC L j).se) := ((bcell (B2.out.trans (HB3.out.mono B2.out.size))).1 _ _ hgw).trans (HC.out j (by omega) 5 (by omega))
                have z6 : wr.cell? ⟨g, j * 10 + 6, none⟩ = some (.int .i64 (atC L j).mo) := ((bcell (B2.out.trans (HB3.out.mono B2.out.size))).1 _ _ hgw).trans (HC.out j (by omega) 6 (by omega))
                have z7 : wr.cell? ⟨g, j * 10 + 7, none⟩ = some (.string (atC L j).pt) := ((bcell (B2.out.trans (HB3.out.mono B2.out.size))).1 _ _ hgw).trans (HC.out j (by omega) 7 (by omega))
                have z8 : wr.cell? ⟨g, j * 10 + 8, none⟩ = some (.int .i64 (atC L j).un) := ((bcell (B2.out.trans (HB3.out.mono B2.out.size))).1 _ _ hgw).trans (HC.out j (by omega) 8 (by omega))
                have z9 : wr.cell? ⟨g, j * 10 + 9, none⟩ = some (.int .i64 (atC L j).ma) := ((bcell (B2.out.trans (HB3.out.mono B2.out.size))).1 _ _ hgw).trans (HC.out j (by omega) 9 (by omega))
                have KE0 : ∀ W, Calls Tryz.prog 78 #[ckV (atC L j), ckV ⟨na, va, ho, al, pa, se, mo, pt, un, ma⟩] W fun e w' => e = .returned (.bool (sameK (atC L j) ⟨na, va, ho, al, pa, se, mo, pt, un, ma⟩)) ∧ Below W.heap.size W w' := fun W => specSame6_any _ _ W
                have HN3 : Hid (sameK (atC L j) ⟨na, va, ho, al, pa, se, mo, pt, un, ma⟩ = true → R = false) := fun e => HSN.out j hjl e
                have HN4 : Hid (sameK (atC L j) ⟨na, va, ho, al, pa, se, mo, pt, un, ma⟩ = false → ∀ i', i' < j + 1 → sameK (atC L i') ⟨na, va, ho, al, pa, se, mo, pt, un, ma⟩ = false) := fun e i' hi' => by
                  by_cases e2 : i' = j
                  · subst e2; exact e
                  · exact HR3.out i' (by omega)
                generalize hsm : sameK (atC L j) ⟨na, va, ho, al, pa, se, mo, pt, un, ma⟩ = sm at *
                clear hsm
                generalize atC L j = zz at *
                obtain ⟨zna, zva, zho, zal, zpa, zse, zmo, zpt, zun, zma⟩ := zz
                unfold ckV at KE0
                dsimp only at *
                have KE : Hid (∀ W, Calls Tryz.prog 78 #[.agg #[.string zna, .string zva, .string zho, .bool zal, .string zpa, .bool zse, .int .i64 zmo, .string zpt, .int .i64 zun, .int .i64 zma], .agg #[.string na, .string va, .string ho, .bool al, .string pa, .bool se, .int .i64 mo, .string pt, .int .i64 un, .int .i64 ma]] W fun e w' => e = .returned (.bool sm) ∧ Below W.heap.size W w') := KE0
                clear KE0
                go_wp2_with fail
                go_region_held3 (fun w' => w'.cell? ⟨g, j * 10, none⟩ = some (.string zna) ∧ w'.cell? ⟨g, j * 10 + 1, none⟩ = some (.string zva) ∧ w'.cell? ⟨g, j * 10 + 2, none⟩ = some (.string zho) ∧ w'.cell? ⟨g, j * 10 + 3, none⟩ = some (.bool zal) ∧ w'.cell? ⟨g, j * 10 + 4, none⟩ = some (.string zpa) ∧ w'.cell? ⟨g, j * 10 + 5, none⟩ = some (.bool zse) ∧ w'.cell? ⟨g, j * 10 + 6, none⟩ = some (.int .i64 zmo) ∧ w'.cell? ⟨g, j * 10 + 7, none⟩ = some (.string zpt) ∧ w'.cell? ⟨g, j * 10 + 8, none⟩ = some (.int .i64 zun) ∧ w'.cell? ⟨g, j * 10 + 9, none⟩ = some (.int .i64 zma) ∧ w'.cell? ⟨g, (m + 1) * 10, none⟩ = some (.string na) ∧ w'.cell? ⟨g, (m + 1) * 10 + 1, none⟩ = some (.string va) ∧ w'.cell? ⟨g, (m + 1) * 10 + 2, none⟩ = some (.string ho) ∧ w'.cell? ⟨g, (m + 1) * 10 + 3, none⟩ = some (.bool al) ∧ w'.cell? ⟨g, (m + 1) * 10 + 4, none⟩ = some (.string pa) ∧ w'.cell? ⟨g, (m + 1) * 10 + 5, none⟩ = some (.bool se) ∧ w'.cell? ⟨g, (m + 1) * 10 + 6, none⟩ = some (.int .i64 mo) ∧ w'.cell? ⟨g, (m + 1) * 10 + 7, none⟩ = some (.string pt) ∧ w'.cell? ⟨g, (m + 1) * 10 + 8, none⟩ = some (.int .i64 un) ∧ w'.cell? ⟨g, (m + 1) * 10 + 9, none⟩ = some (.int .i64 ma)) (go_keep)
                  (first | (go_at_call 78; refine (KE.out _).mono ?_; rintro e w4 ⟨rfl, hb4⟩; have A4 : Below wr.heap.size wr w4 := (Below.drew (Below.refl _ _)).trans hb4; have p0 : w4.cell? ⟨g, j * 10, none⟩ = some (.string zna) := ((bcell A4).1 _ _ hg3).trans z0; have p1 : w4.cell? ⟨g, j * 10 + 1, none⟩ = some (.string zva) := ((bcell A4).1 _ _ hg3).trans z1; have p2 : w4.cell? ⟨g, j * 10 + 2, none⟩ = some (.string zho) := ((bcell A4).1 _ _ hg3).trans z2; have p3 : w4.cell? ⟨g, j * 10 + 3, none⟩ = some (.bool zal) := ((bcell A4).1 _ _ hg3).trans z3; have p4 : w4.cell? ⟨g, j * 10 + 4, none⟩ = some (.string zpa) := ((bcell A4).1 _ _ hg3).trans z4; have p5 : w4.cell? ⟨g, j * 10 + 5, none⟩ = some (.bool zse) := ((bcell A4).1 _ _ hg3).trans z5; have p6 : w4.cell? ⟨g, j * 10 + 6, none⟩ = some (.int .i64 zmo) := ((bcell A4).1 _ _ hg3).trans z6; have p7 : w4.cell? ⟨g, j * 10 + 7, none⟩ = some (.string zpt) := ((bcell A4).1 _ _ hg3).trans z7; have p8 : w4.cell? ⟨g, j * 10 + 8, none⟩ = some (.int .i64 zun) := ((bcell A4).1 _ _ hg3).trans z8; have p9 : w4.cell? ⟨g, j * 10 + 9, none⟩ = some (.int .i64 zma) := ((bcell A4).1 _ _ hg3).trans z9; have q0 : w4.cell? ⟨g, (m + 1) * 10, none⟩ = some (.string na) := ((bcell A4).1 _ _ hg3).trans y0; have q1 : w4.cell? ⟨g, (m + 1) * 10 + 1, none⟩ = some (.string va) := ((bcell A4).1 _ _ hg3).trans y1; have q2 : w4.cell? ⟨g, (m + 1) * 10 + 2, none⟩ = some (.string ho) := ((bcell A4).1 _ _ hg3).trans y2; have q3 : w4.cell? ⟨g, (m + 1) * 10 + 3, none⟩ = some (.bool al) := ((bcell A4).1 _ _ hg3).trans y3; have q4 : w4.cell? ⟨g, (m + 1) * 10 + 4, none⟩ = some (.string pa) := ((bcell A4).1 _ _ hg3).trans y4; have q5 : w4.cell? ⟨g, (m + 1) * 10 + 5, none⟩ = some (.bool se) := ((bcell A4).1 _ _ hg3).trans y5; have q6 : w4.cell? ⟨g, (m + 1) * 10 + 6, none⟩ = some (.int .i64 mo) := ((bcell A4).1 _ _ hg3).trans y6; have q7 : w4.cell? ⟨g, (m + 1) * 10 + 7, none⟩ = some (.string pt) := ((bcell A4).1 _ _ hg3).trans y7; have q8 : w4.cell? ⟨g, (m + 1) * 10 + 8, none⟩ = some (.int .i64 un) := ((bcell A4).1 _ _ hg3).trans y8; have q9 : w4.cell? ⟨g, (m + 1) * 10 + 9, none⟩ = some (.int .i64 ma) := ((bcell A4).1 _ _ hg3).trans y9))
                have B4 : Hid (Below w2.heap.size w2 w4) := HB3.out.trans (A4.mono HB3.out.size)
                clear A4 hb4
                cases sm with
                | true =>
                  have HQ : Hid (R = false) := HN3.out rfl
                  go_wp2
                  go_ret
                  exact ⟨ret_bool HQ.out.symm, B2.out.trans (B4.out.mono B2.out.size)⟩
                | false =>
                  have HN5 : Hid (∀ i', i' < j + 1 → sameK (atC L i') ⟨na, va, ho, al, pa, se, mo, pt, un, ma⟩ = false) := HN4.out rfl
                  go_wp2
                  go_roundw
                  case rel => exact ⟨j + 1, by omega, by go_num, B4, HN5⟩
                  case measure => simp [intOf]; omega
              · have HK2 : Hid (okJ L (m + 1) = true) := HKY.out (fun k hk => HR3.out k (by omega))
                go_wp2
                go_roundw
                case rel => exact ⟨m + 2, by omega, by go_num, B2.out.trans (HB3.out.mono B2.out.size), okJ_succ HR.out HK2.out⟩
                case measure => simp [intOf]; omega
          · have qg : decide (ma ≤ pm) = true := by rw [decide_eq_true_iff]; omega
            have HQ : Hid (R = false) := HMN.out hlm
            clear HKY2 HMN HSN
            go_wp2_with fail
            refine wp_region_held_drew (S := (fun w' => w'.cell? ⟨g, (m + 1) * 10, none⟩ = some (.string na) ∧ w'.cell? ⟨g, (m + 1) * 10 + 1, none⟩ = some (.string va) ∧ w'.cell? ⟨g, (m + 1) * 10 + 2, none⟩ = some (.string ho) ∧ w'.cell? ⟨g, (m + 1) * 10 + 3, none⟩ = some (.bool al) ∧ w'.cell? ⟨g, (m + 1) * 10 + 4, none⟩ = some (.string pa) ∧ w'.cell? ⟨g, (m + 1) * 10 + 5, none⟩ = some (.bool se) ∧ w'.cell? ⟨g, (m + 1) * 10 + 6, none⟩ = some (.int .i64 mo) ∧ w'.cell? ⟨g, (m + 1) * 10 + 7, none⟩ = some (.string pt) ∧ w'.cell? ⟨g, (m + 1) * 10 + 8, none⟩ = some (.int .i64 un) ∧ w'.cell? ⟨g, (m + 1) * 10 + 9, none⟩ = some (.int .i64 ma) ∧ w'.cell? ⟨g, m * 10 + 9, none⟩ = some (.int .i64 pm))) (by kernel_rfl) ?_ (fun hH0 => ?_)
            · (try dsimp only)
              go_keep
            refine wpAnyH_take (i := 0) (oi := { dst := some 11, op := Op.move (Operand.tmp 0), type := 34, pos := "l06_jar.go:18", after := #[], guard := none }) (v := ?vd0) rfl (by kernel_rfl) (by kernel_rfl) (by kernel_rfl) (fun _ _ _ h => h) (Or.inl ⟨by rfl, ?hyd0⟩) (by assumption) ?restd0
            case hyd0 =>
              intro w hSw
              (try dsimp only at hSw)
              go_simp
              try with_reducible rfl
            try simp only [Act.put, List.setIfInBounds_toArray, List.set_cons_zero, List.set_cons_succ]
            refine wpAnyH_take (i := 1) (oi := { dst := some 12, op := Op.move (Operand.tmp 3), type := 3, pos := "l06_jar.go:18", after := #[], guard := none }) (v := ?vd1) rfl (by kernel_rfl) (by kernel_rfl) (by kernel_rfl) (fun _ _ _ h => h) (Or.inl ⟨by rfl, ?hyd1⟩) (by assumption) ?restd1
            case hyd1 =>
              intro w hSw
              (try dsimp only at hSw)
              go_simp
              try with_reducible rfl
            try simp only [Act.put, List.setIfInBounds_toArray, List.set_cons_zero, List.set_cons_succ]
            refine wpAnyH_take (i := 2) (oi := { dst := some 13, op := Op.indexAddr 34 (Operand.tmp 11) (Operand.tmp 12), type := 0, pos := "l06_jar.go:18", after := #[{ on := 0, ground := Ground.data }, { on := 1, ground := Ground.data }], guard := none }) (v := ?vd2) rfl (by kernel_rfl) (by kernel_rfl) (by kernel_rfl) (fun _ _ _ h => h) (Or.inl ⟨by rfl, ?hyd2⟩) (by assumption) ?restd2
            case hyd2 =>
              intro w hSw
              (try dsimp only at hSw)
              go_simp
              try with_reducible rfl
            try simp only [Act.put, List.setIfInBounds_toArray, List.set_cons_zero, List.set_cons_succ]
            refine wpAnyH_take (i := 3) (oi := { dst := some 14, op := Op.load 125 (Operand.tmp 13), type := 125, pos := "l06_jar.go:18", after := #[{ on := 2, ground := Ground.data }], guard := none }) (v := ?vd3) rfl (by kernel_rfl) (by kernel_rfl) (by kernel_rfl) (fun _ _ _ h => h) (Or.inl ⟨by rfl, ?hyd3⟩) (by assumption) ?restd3
            case hyd3 =>
              intro w hSw
              (try dsimp only at hSw)
              go_simp
              try with_reducible rfl
            try simp only [Act.put, List.setIfInBounds_toArray, List.set_cons_zero, List.set_cons_succ]
            refine wpAnyH_ready (rs := [4]) (by kernel_rfl) (by simp) ?_
            refine AllReadyH.cons (o := { dst := some 15, op := Op.call { callee := Callee.value (Operand.func 77), args := #[Operand.tmp 14], argTypes := #[125] }, type := 4, pos := "l06_jar.go:18", after := #[{ on := 3, ground := Ground.data }], guard := none }) rfl (fun K hK => ?_) AllReadyH.nil
            go_simp
            (go_at_call 77; refine (KC.out _).mono ?_; rintro e w2 ⟨rfl, hb2⟩; have x0 : w2.cell? ⟨g, (m + 1) * 10, none⟩ = some (.string na) := ((bcell hb2).1 _ _ hgr).trans c0; have x1 : w2.cell? ⟨g, (m + 1) * 10 + 1, none⟩ = some (.string va) := ((bcell hb2).1 _ _ hgr).trans c1; have x2 : w2.cell? ⟨g, (m + 1) * 10 + 2, none⟩ = some (.string ho) := ((bcell hb2).1 _ _ hgr).trans c2; have x3 : w2.cell? ⟨g, (m + 1) * 10 + 3, none⟩ = some (.bool al) := ((bcell hb2).1 _ _ hgr).trans c3; have x4 : w2.cell? ⟨g, (m + 1) * 10 + 4, none⟩ = some (.string pa) := ((bcell hb2).1 _ _ hgr).trans c4; have x5 : w2.cell? ⟨g, (m + 1) * 10 + 5, none⟩ = some (.bool se) := ((bcell hb2).1 _ _ hgr).trans c5; have x6 : w2.cell? ⟨g, (m + 1) * 10 + 6, none⟩ = some (.int .i64 mo) := ((bcell hb2).1 _ _ hgr).trans c6; have x7 : w2.cell? ⟨g, (m + 1) * 10 + 7, none⟩ = some (.string pt) := ((bcell hb2).1 _ _ hgr).trans c7; have x8 : w2.cell? ⟨g, (m + 1) * 10 + 8, none⟩ = some (.int .i64 un) := ((bcell hb2).1 _ _ hgr).trans c8; have x9 : w2.cell? ⟨g, (m + 1) * 10 + 9, none⟩ = some (.int .i64 ma) := ((bcell hb2).1 _ _ hgr).trans c9; have xm : w2.cell? ⟨g, m * 10 + 9, none⟩ = some (.int .i64 pm) := ((bcell hb2).1 _ _ hgr).trans cm)
            try (go_wp2_with fail)
            refine hK.out _ _ ?_ (fun hH1 => ?_)
            · (try dsimp only)
              go_keep
            clear hK K hH0
            try simp only [Act.put, List.setIfInBounds_toArray, List.set_cons_zero, List.set_cons_succ]
            refine wpAnyH_take (i := 5) (oi := { dst := some 16, op := Op.unOp UnOp.not 4 (Operand.tmp 15), type := 4, pos := "l06_jar.go:18", after := #[{ on := 4, ground := Ground.data }], guard := none }) (v := ?vd5) rfl (by kernel_rfl) (by kernel_rfl) (by kernel_rfl) (fun _ _ _ h => h) (Or.inl ⟨by rfl, ?hyd5⟩) (by assumption) ?restd5
            case hyd5 =>
              intro w hSw
              (try dsimp only at hSw)
              go_simp
              try with_reducible rfl
            try simp only [Act.put, List.setIfInBounds_toArray, List.set_cons_zero, List.set_cons_succ]
            refine wpAnyH_take (i := 6) (oi := { dst := some 17, op := Op.move (Operand.tmp 16), type := 4, pos := "l06_jar.go:18", after := #[{ on := 5, ground := Ground.data }, { on := 4, ground := Ground.chain }], guard := none }) (v := ?vd6) rfl (by kernel_rfl) (by kernel_rfl) (by kernel_rfl) (fun _ _ _ h => h) (Or.inl ⟨by rfl, ?hyd6⟩) (by assumption) ?restd6
            case hyd6 =>
              intro w hSw
              (try dsimp only at hSw)
              go_simp
              try with_reducible rfl
            try simp only [Act.put, List.setIfInBounds_toArray, List.set_cons_zero, List.set_cons_succ]
            refine wpAnyH_take (i := 7) (oi := { dst := some 18, op := Op.move (Operand.tmp 3), type := 3, pos := "l06_jar.go:18", after := #[{ on := 6, ground := Ground.guard }], guard := some (6, false) }) (v := ?vd7) rfl (by kernel_rfl) (by kernel_rfl) (by kernel_rfl) (fun _ _ _ h => h) (Or.inl ⟨by rfl, ?hyd7⟩) (by assumption) ?restd7
            case hyd7 =>
              intro w hSw
              (try dsimp only at hSw)
              go_simp
              try with_reducible rfl
            try simp only [Act.put, List.setIfInBounds_toArray, List.set_cons_zero, List.set_cons_succ]
            refine wpAnyH_take (i := 8) (oi := { dst := some 19, op := Op.binOp BinOp.gtr 3 (Operand.tmp 18) (Operand.const (Value.int IntKind.i64 0)) 3, type := 4, pos := "l06_jar.go:18", after := #[{ on := 7, ground := Ground.data }, { on := 6, ground := Ground.guard }], guard := some (6, false) }) (v := ?vd8) rfl (by kernel_rfl) (by kernel_rfl) (by kernel_rfl) (fun _ _ _ h => h) (Or.inl ⟨by rfl, ?hyd8⟩) (by assumption) ?restd8
            case hyd8 =>
              intro w hSw
              (try dsimp only at hSw)
              go_simp
              try with_reducible rfl
            try simp only [Act.put, List.setIfInBounds_toArray, List.set_cons_zero, List.set_cons_succ]
            refine wpAnyH_take (i := 9) (oi := { dst := some 20, op := Op.move (Operand.tmp 19), type := 4, pos := "l06_jar.go:18", after := #[{ on := 8, ground := Ground.data }, { on := 6, ground := Ground.chain }, { on := 6, ground := Ground.guard }], guard := some (6, false) }) (v := ?vd9) rfl (by kernel_rfl) (by kernel_rfl) (by kernel_rfl) (fun _ _ _ h => h) (Or.inl ⟨by rfl, ?hyd9⟩) (by assumption) ?restd9
            case hyd9 =>
              intro w hSw
              (try dsimp only at hSw)
              go_simp
              try with_reducible rfl
            try simp only [Act.put, List.setIfInBounds_toArray, List.set_cons_zero, List.set_cons_succ]
            refine wpAnyH_take (i := 10) (oi := { dst := some 21, op := Op.move (Operand.tmp 0), type := 34, pos := "l06_jar.go:18", after := #[{ on := 9, ground := Ground.guard }], guard := some (9, true) }) (v := ?vd10) rfl (by kernel_rfl) (by kernel_rfl) (by kernel_rfl) (fun _ _ _ h => h) (Or.inl ⟨by rfl, ?hyd10⟩) (by assumption) ?restd10
            case hyd10 =>
              intro w hSw
              (try dsimp only at hSw)
              go_simp
              try with_reducible rfl
            try simp only [Act.put, List.setIfInBounds_toArray, List.set_cons_zero, List.set_cons_succ]
            refine wpAnyH_take (i := 11) (oi := { dst := some 22, op := Op.move (Operand.tmp 3), type := 3, pos := "l06_jar.go:18", after := #[{ on := 9, ground := Ground.guard }], guard := some (9, true) }) (v := ?vd11) rfl (by kernel_rfl) (by kernel_rfl) (by kernel_rfl) (fun _ _ _ h => h) (Or.inl ⟨by rfl, ?hyd11⟩) (by assumption) ?restd11
            case hyd11 =>
              intro w hSw
              (try dsimp only at hSw)
              go_simp
              try with_reducible rfl
            try simp only [Act.put, List.setIfInBounds_toArray, List.set_cons_zero, List.set_cons_succ]
            refine wpAnyH_take (i := 12) (oi := { dst := some 23, op := Op.binOp BinOp.sub 3 (Operand.tmp 22) (Operand.const (Value.int IntKind.i64 1)) 3, type := 3, pos := "l06_jar.go:18", after := #[{ on := 11, ground := Ground.data }, { on := 9, ground := Ground.guard }], guard := some (9, true) }) (v := ?vd12) rfl (by kernel_rfl) (by kernel_rfl) (by kernel_rfl) (fun _ _ _ h => h) (Or.inl ⟨by rfl, ?hyd12⟩) (by assumption) ?restd12
            case hyd12 =>
              intro w hSw
              (try dsimp only at hSw)
              go_simp
              try with_reducible rfl
            try simp only [Act.put, List.setIfInBounds_toArray, List.set_cons_zero, List.set_cons_succ]
            refine wpAnyH_take (i := 13) (oi := { dst := some 24, op := Op.indexAddr 34 (Operand.tmp 21) (Operand.tmp 23), type := 0, pos := "l06_jar.go:18", after := #[{ on := 10, ground := Ground.data }, { on := 12, ground := Ground.data }, { on := 9, ground := Ground.guard }], guard := some (9, true) }) (v := ?vd13) rfl (by kernel_rfl) (by kernel_rfl) (by kernel_rfl) (fun _ _ _ h => h) (Or.inl ⟨by rfl, ?hyd13⟩) (by assumption) ?restd13
            case hyd13 =>
              intro w hSw
              (try dsimp only at hSw)
              go_simp
              try with_reducible rfl
            try simp only [Act.put, List.setIfInBounds_toArray, List.set_cons_zero, List.set_cons_succ]
            refine wpAnyH_take (i := 14) (oi := { dst := some 25, op := Op.fieldAddr 125 (Operand.tmp 24) 9, type := 0, pos := "l06_jar.go:18", after := #[{ on := 13, ground := Ground.data }, { on := 9, ground := Ground.guard }], guard := some (9, true) }) (v := ?vd14) rfl (by kernel_rfl) (by kernel_rfl) (by kernel_rfl) (fun _ _ _ h => h) (Or.inl ⟨by rfl, ?hyd14⟩) (by assumption) ?restd14
            case hyd14 =>
              intro w hSw
              (try dsimp only at hSw)
              go_simp
              try with_reducible rfl
            try simp only [Act.put, List.setIfInBounds_toArray, List.set_cons_zero, List.set_cons_succ]
            refine wpAnyH_take (i := 15) (oi := { dst := some 26, op := Op.load 2 (Operand.tmp 25), type := 2, pos := "l06_jar.go:18", after := #[{ on := 14, ground := Ground.data }, { on := 9, ground := Ground.guard }], guard := some (9, true) }) (v := ?vd15) rfl (by kernel_rfl) (by kernel_rfl) (by kernel_rfl) (fun _ _ _ h => h) (Or.inl ⟨by rfl, ?hyd15⟩) (by assumption) ?restd15
            case hyd15 =>
              intro w hSw
              (try dsimp only at hSw)
              go_simp
              try with_reducible rfl
            try simp only [Act.put, List.setIfInBounds_toArray, List.set_cons_zero, List.set_cons_succ]
            refine wpAnyH_take (i := 16) (oi := { dst := some 27, op := Op.move (Operand.tmp 0), type := 34, pos := "l06_jar.go:18", after := #[{ on := 9, ground := Ground.guard }], guard := some (9, true) }) (v := ?vd16) rfl (by kernel_rfl) (by kernel_rfl) (by kernel_rfl) (fun _ _ _ h => h) (Or.inl ⟨by rfl, ?hyd16⟩) (by assumption) ?restd16
            case hyd16 =>
              intro w hSw
              (try dsimp only at hSw)
              go_simp
              try with_reducible rfl
            try simp only [Act.put, List.setIfInBounds_toArray, List.set_cons_zero, List.set_cons_succ]
            refine wpAnyH_take (i := 17) (oi := { dst := some 28, op := Op.move (Operand.tmp 3), type := 3, pos := "l06_jar.go:18", after := #[{ on := 9, ground := Ground.guard }], guard := some (9, true) }) (v := ?vd17) rfl (by kernel_rfl) (by kernel_rfl) (by kernel_rfl) (fun _ _ _ h => h) (Or.inl ⟨by rfl, ?hyd17⟩) (by assumption) ?restd17
            case hyd17 =>
              intro w hSw
              (try dsimp only at hSw)
              go_simp
              try with_reducible rfl
            try simp only [Act.put, List.setIfInBounds_toArray, List.set_cons_zero, List.set_cons_succ]
            refine wpAnyH_take (i := 18) (oi := { dst := some 29, op := Op.indexAddr 34 (Operand.tmp 27) (Operand.tmp 28), type := 0, pos := "l06_jar.go:18", after := #[{ on := 16, ground := Ground.data }, { on := 17, ground := Ground.data }, { on := 9, ground := Ground.guard }], guard := some (9, true) }) (v := ?vd18) rfl (by kernel_rfl) (by kernel_rfl) (by kernel_rfl) (fun _ _ _ h => h) (Or.inl ⟨by rfl, ?hyd18⟩) (by assumption) ?restd18
            case hyd18 =>
              intro w hSw
              (try dsimp only at hSw)
              go_simp
              try with_reducible rfl
            try simp only [Act.put, List.setIfInBounds_toArray, List.set_cons_zero, List.set_cons_succ]
            refine wpAnyH_take (i := 19) (oi := { dst := some 30, op := Op.fieldAddr 125 (Operand.tmp 29) 9, type := 0, pos := "l06_jar.go:18", after := #[{ on := 18, ground := Ground.data }, { on := 9, ground := Ground.guard }], guard := some (9, true) }) (v := ?vd19) rfl (by kernel_rfl) (by kernel_rfl) (by kernel_rfl) (fun _ _ _ h => h) (Or.inl ⟨by rfl, ?hyd19⟩) (by assumption) ?restd19
            case hyd19 =>
              intro w hSw
              (try dsimp only at hSw)
              go_simp
              try with_reducible rfl
            try simp only [Act.put, List.setIfInBounds_toArray, List.set_cons_zero, List.set_cons_succ]
            refine wpAnyH_take (i := 20) (oi := { dst := some 31, op := Op.load 2 (Operand.tmp 30), type := 2, pos := "l06_jar.go:18", after := #[{ on := 19, ground := Ground.data }, { on := 9, ground := Ground.guard }], guard := some (9, true) }) (v := ?vd20) rfl (by kernel_rfl) (by kernel_rfl) (by kernel_rfl) (fun _ _ _ h => h) (Or.inl ⟨by rfl, ?hyd20⟩) (by assumption) ?restd20
            case hyd20 =>
              intro w hSw
              (try dsimp only at hSw)
              go_simp
              try with_reducible rfl
            try simp only [Act.put, List.setIfInBounds_toArray, List.set_cons_zero, List.set_cons_succ]
            refine wpAnyH_take (i := 21) (oi := { dst := some 32, op := Op.binOp BinOp.geq 2 (Operand.tmp 26) (Operand.tmp 31) 2, type := 4, pos := "l06_jar.go:18", after := #[{ on := 15, ground := Ground.data }, { on := 20, ground := Ground.data }, { on := 9, ground := Ground.guard }], guard := some (9, true) }) (v := ?vd21) rfl (by kernel_rfl) (by kernel_rfl) (by kernel_rfl) (fun _ _ _ h => h) (Or.inl ⟨by rfl, ?hyd21⟩) (by assumption) ?restd21
            case hyd21 =>
              intro w hSw
              (try dsimp only at hSw)
              go_simp
              try with_reducible rfl
            try simp only [Act.put, List.setIfInBounds_toArray, List.set_cons_zero, List.set_cons_succ]
            refine wpAnyH_take (i := 22) (oi := { dst := some 33, op := Op.pick (Operand.tmp 20) (Operand.tmp 32) (Operand.const (Value.bool false)), type := 4, pos := "l06_jar.go:18", after := #[{ on := 9, ground := Ground.data }, { on := 21, ground := Ground.data }, { on := 6, ground := Ground.guard }], guard := some (6, false) }) (v := ?vd22) rfl (by kernel_rfl) (by kernel_rfl) (by kernel_rfl) (fun _ _ _ h => h) (Or.inl ⟨by rfl, ?hyd22⟩) (by assumption) ?restd22
            case hyd22 =>
              intro w hSw
              (try dsimp only at hSw)
              go_simp
              try with_reducible rfl
            try simp only [Act.put, List.setIfInBounds_toArray, List.set_cons_zero, List.set_cons_succ]
            refine wpAnyH_take (i := 23) (oi := { dst := some 34, op := Op.pick (Operand.tmp 17) (Operand.const (Value.bool true)) (Operand.tmp 33), type := 4, pos := "l06_jar.go:18", after := #[{ on := 6, ground := Ground.data }, { on := 22, ground := Ground.data }], guard := none }) (v := ?vd23) rfl (by kernel_rfl) (by kernel_rfl) (by kernel_rfl) (fun _ _ _ h => h) (Or.inl ⟨by rfl, ?hyd23⟩) (by assumption) ?restd23
            case hyd23 =>
              intro w hSw
              (try dsimp only at hSw)
              go_simp
              try with_reducible rfl
            try simp only [Act.put, List.setIfInBounds_toArray, List.set_cons_zero, List.set_cons_succ]
            refine wpAnyH_done (by kernel_rfl) ?_ _
            go_wp2
            go_ret
            exact ⟨ret_bool HQ.out.symm, (HB.out.trans (Below.drew (Below.refl _ _))).trans (hb2.mono HB.out.size)⟩
    · have HQ : Hid (R = decide ((L.length : Int) ≤ 12)) := HY.out (fun i hi => HR.out i (by omega))
      go_wp2
      go_ret
      exact ⟨ret_bool HQ.out.symm, HB.out⟩
end Go.Proofs.YtaccgciopmclhaaGreatDoor

/- The walks of the specification's l07Key, l07Less, l07Used. -/
namespace Go.Proofs.YtaccgciopmclhaaGreatDoor
open Go.RowKit

set_option maxRecDepth 10000 in
set_option maxHeartbeats 1000000 in
theorem specKey_any (t : ByteArray) (w : World) : Calls Tryz.prog 79 #[.string t] w fun e w' => e = .returned (.bool (keyB t)) ∧ w' = w := by
  have HK : Hid (keyB t = (decide (1 ≤ t.size) && decide (t.size ≤ 200))) := rfl
  generalize keyB t = R at *
  by_cases h1 : 1 ≤ t.size
  · have q1 : decide ((1 : Int) ≤ (t.size : Int)) = true := by rw [decide_eq_true_iff]; omega
    by_cases h2 : t.size ≤ 200
    · have q2 : decide ((t.size : Int) ≤ (200 : Int)) = true := by rw [decide_eq_true_iff]; omega
      have HR : Hid (R = true) := by show _ = _; rw [HK.out, decide_eq_true h1, decide_eq_true h2]; rfl
      go_enter Tryz.func79, Tryz.ntmps79
      go_wp2
      go_ret
      exact ⟨ret_bool HR.out.symm, rfl⟩
    · have q2 : decide ((t.size : Int) ≤ (200 : Int)) = false := by rw [decide_eq_false_iff_not]; omega
      have HR : Hid (R = false) := by show _ = _; rw [HK.out, decide_eq_false h2, Bool.and_false]
      go_enter Tryz.func79, Tryz.ntmps79
      go_wp2
      go_ret
      exact ⟨ret_bool HR.out.symm, rfl⟩
  · have q1 : decide ((1 : Int) ≤ (t.size : Int)) = false := by rw [decide_eq_false_iff_not]; omega
    have HR : Hid (R = false) := by show _ = _; rw [HK.out, decide_eq_false h1]; rfl
    go_enter Tryz.func79, Tryz.ntmps79
    go_wp2
    go_ret
    exact ⟨ret_bool HR.out.symm, rfl⟩
theorem lss_text (t : TypeId) (a b : ByteArray) : binOp .lss t (.string a) (.string b) = pure (.bool (Op.bytesLess a.toList b.toList)) := by simp [binOp, Op.stringOp]
set_option maxRecDepth 10000 in
set_option maxHeartbeats 1000000 in
theorem specLess_any (a b : En) (w : World) : Calls Tryz.prog 81 #[enV a, enV b] w fun e w' => e = .returned (.bool (enLess a b)) ∧ Below w.heap.size w w' := by
  obtain ⟨k1, n1, v1⟩ := a
  obtain ⟨k2, n2, v2⟩ := b
  unfold enV
  dsimp only
  have HK : Hid (enLess ⟨k1, n1, v1⟩ ⟨k2, n2, v2⟩ = (Op.bytesLess k1.toList k2.toList || ((k1.toList == k2.toList) && Op.bytesLess n1.toList n2.toList))) := rfl
  generalize enLess ⟨k1, n1, v1⟩ ⟨k2, n2, v2⟩ = R at *
  cases h1 : Op.bytesLess k1.toList k2.toList with
  | true =>
    have HR : Hid (R = true) := by show _ = _; rw [HK.out, h1]; rfl
    go_enter Tryz.func81, Tryz.ntmps81
    go_wp2
    go_ret
    exact ⟨ret_bool HR.out.symm, ((Below.refl _ _).alloc (Nat.le_refl _) _).alloc (by simp) _⟩
  | false =>
    cases h2 : (k1.toList == k2.toList) with
    | false =>
      have HR : Hid (R = false) := by show _ = _; rw [HK.out, h1, h2]; rfl
      go_enter Tryz.func81, Tryz.ntmps81
      go_wp2
      go_ret
      exact ⟨ret_bool HR.out.symm, ((Below.refl _ _).alloc (Nat.le_refl _) _).alloc (by simp) _⟩
    | true =>
      have HR : Hid (R = Op.bytesLess n1.toList n2.toList) := by show _ = _; rw [HK.out, h1, h2]; rfl
      go_enter Tryz.func81, Tryz.ntmps81
      go_wp2
      go_ret
      exact ⟨ret_bool HR.out.symm, ((Below.refl _ _).alloc (Nat.le_refl _) _).alloc (by simp) _⟩
set_option maxRecDepth 10000 in
set_option maxHeartbeats 4000000 in
theorem specUsed_any (v : Value) (L : List En) (key : ByteArray) (B : Nat) (w : World) (hs : SliceE w B v L) (hn : L.length ≤ 16) (hz : ∀ i, i < L.length → (atE L i).na.size ≤ 1048576 ∧ (atE L i).va.size ≤ 1048576) :
    Calls Tryz.prog 82 #[v, .string key] w fun e w' => e = .returned (.int .i64 (usedN L key : Int)) ∧ Below w.heap.size w w' := by
  obtain ⟨⟨p, cap, rfl, hg⟩, -⟩ := hs
  have HG : Hid (0 < L.length → ∃ g, p = some ⟨g, 0, none⟩ ∧ g < w.heap.size ∧ ∀ j, j < L.length → ∀ o, o < 3 → w.cell? ⟨g, j * 3 + o, none⟩ = some (enC (atE L j) o)) := fun h0 => by
    obtain ⟨g, e, -, hgw, hc⟩ := hg h0
    exact ⟨g, e, hgw, fun j hj o ho => (hc j hj o ho).1⟩
  have HZ : Hid (∀ i, i < L.length → (atE L i).na.size ≤ 1048576 ∧ (atE L i).va.size ≤ 1048576) := hz
  have HS : Hid (∀ k, usedTo L key (k + 1) = usedTo L key k + (if ((atE L k).ke.toList == key.toList) = true then enN (atE L k) else 0)) := fun k => rfl
  clear hg hz
  go_enter Tryz.func82, Tryz.ntmps82
  go_wp2
  go_loopw [5, 6] (fun n i wr => ∃ k : Nat, k ≤ L.length ∧ i = .int .i64 k ∧ n = .int .i64 (usedTo L key k : Int) ∧ usedTo L key k ≤ k * 2097152 ∧ Hid (Below w.heap.size w wr)) (fun _ i _ => L.length - (intOf i).toNat)
  case atStart => exact ⟨0, Nat.zero_le _, rfl, rfl, Nat.zero_le _, Below.refl _ _⟩
  case round =>
    obtain ⟨k, hk, rfl, rfl, hb, HB⟩ := hrel
    by_cases hlt : k < L.length
    · obtain ⟨g, rfl, hgw, hc⟩ := HG.out (by omega)
      have hz1 := (HZ.out k hlt).1
      have hz2 := (HZ.out k hlt).2
      have c0 : wr.cell? ⟨g, k * 3, none⟩ = some (.string (atE L k).ke) := by rw [(bcell HB.out).1 _ _ hgw]; exact hc k hlt 0 (by omega)
      have c1 : wr.cell? ⟨g, k * 3 + 1, none⟩ = some (.string (atE L k).na) := by rw [(bcell HB.out).1 _ _ hgw]; exact hc k hlt 1 (by omega)
      have c2 : wr.cell? ⟨g, k * 3 + 2, none⟩ = some (.string (atE L k).va) := by rw [(bcell HB.out).1 _ _ hgw]; exact hc k hlt 2 (by omega)
      have k0 : (0 : Int) ≤ k := by omega
      have k1 : (k : Int) < L.length := by omega
      have HSk := HS.out k
      have HE : Hid (enN (atE L k) = (atE L k).na.size + (atE L k).va.size) := rfl
      clear hc
      cases hq : ((atE L k).ke.toList == key.toList) with
      | true =>
        rw [hq, if_pos rfl, HE.out] at HSk
        have HN : Hid (usedTo L key (k + 1) = usedTo L key k + ((atE L k).na.size + (atE L k).va.size)) := HSk
        have HU : Hid (usedTo L key (k + 1) ≤ (k + 1) * 2097152) := by show _ ≤ _; have := HN.out; omega
        clear HSk HE HS HZ HG
        generalize usedTo L key k = u at *
        generalize atE L k = y at *
        obtain ⟨ke, na, va⟩ := y
        dsimp only at *
        have hw1 : IntKind.i64.wrap ((na.size : Int) + (va.size : Int)) = (na.size : Int) + (va.size : Int) := by rw [IntKind.wrap_i64]; omega
        have hw2 : IntKind.i64.wrap ((u : Int) + ((na.size : Int) + (va.size : Int))) = (u : Int) + ((na.size : Int) + (va.size : Int)) := by rw [IntKind.wrap_i64]; omega
        go_wp2_with fail
        go_region_held3 (fun w' => w'.cell? ⟨g, k * 3 + 1, none⟩ = some (.string na) ∧ w'.cell? ⟨g, k * 3 + 2, none⟩ = some (.string va)) (go_keep) (fail)
        all_goals go_wp2
        all_goals go_roundw
        case rel => exact ⟨k + 1, by omega, by go_num, by rw [HN.out]; exact val_int (by omega), HU.out, HB.out.drew⟩
        case measure => simp [intOf]; omega
      | false =>
        rw [hq, if_neg (by decide)] at HSk
        have HN : Hid (usedTo L key (k + 1) = usedTo L key k) := HSk
        have HU : Hid (usedTo L key (k + 1) ≤ (k + 1) * 2097152) := by show _ ≤ _; have := HN.out; omega
        clear HSk HE HS HZ HG
        generalize usedTo L key k = u at *
        generalize atE L k = y at *
        obtain ⟨ke, na, va⟩ := y
        dsimp only at *
        go_wp2
        go_roundw
        case rel => exact ⟨k + 1, by omega, by go_num, by rw [HN.out], HU.out, HB⟩
        case measure => simp [intOf]; omega
    · obtain rfl : k = L.length := by omega
      go_wp2
      go_ret
      exact ⟨rfl, HB.out⟩
end Go.Proofs.YtaccgciopmclhaaGreatDoor

/- The walks of NameRight: the program's and the specification's both answer nameB of the text, at every text. -/
namespace Go.Proofs.YtaccgciopmclhaaGreatDoor
open Go.RowKit

set_option maxRecDepth 10000 in
set_option maxHeartbeats 400000 in
theorem specName_any (s : ByteArray) (w : World) (hs : s.size ≤ maxLen) :
    Calls Tryz.prog 80 #[.string s] w fun e w' => e = .returned (.bool (nameB s)) ∧ w' = w := by
  unfold maxLen at hs
  by_cases h1 : s.size < 1
  · go_enter Tryz.func80, Tryz.ntmps80
    go_wp2
    go_ret
    exact ⟨ret_bool (nameB_false_of_size (.inl h1)).symm, rfl⟩
  by_cases h2 : 20 < s.size
  · go_enter Tryz.func80, Tryz.ntmps80
    go_wp2
    go_ret
    exact ⟨ret_bool (nameB_false_of_size (.inr h2)).symm, rfl⟩
  go_enter Tryz.func80, Tryz.ntmps80
  go_wp2
  go_loop [3] (fun i => ∃ k : Nat, k ≤ s.size ∧ i = .int .i64 k ∧ ∀ i (h : i < s.size), i < k → okB i (s[i].toNat : Int) = true) (fun i => s.size - (intOf i).toNat)
  case atStart => exact ⟨0, Nat.zero_le _, rfl, fun i _ hi => absurd hi (by omega)⟩
  case round =>
    obtain ⟨k, hk, rfl, hr⟩ := hrel
    have Hr : Hid (∀ i (h : i < s.size), i < k → okB i (s[i].toNat : Int) = true) := hr
    clear hr
    by_cases hlt : k < s.size
    · by_cases hk0 : k < 1
      · obtain rfl : k = 0 := by omega
        rcases byte_cases (s[0].toNat : Int) with ⟨c1, c2, c3, c4⟩ | ⟨c1, c2, c3, c4⟩ | ⟨c1, c2, c3, c4, c5, c6, c7⟩ | ⟨c1, c2, c3, c4, c5, c6⟩ | ⟨c1, c2⟩ | ⟨c1, c2, c3, c4, c5, c6⟩
        all_goals go_wp2
        all_goals first
          | (go_ret; exact ⟨ret_bool (nameB_false_at 0 hlt (okB_not (by omega))).symm, rfl⟩)
          | (go_round
             case rel => exact ⟨1, by omega, rfl, ok_succ Hr.out hlt (okB_of (by omega))⟩
             case measure => simp [intOf]; omega)
      · rcases byte_cases (s[k].toNat : Int) with ⟨c1, c2, c3, c4⟩ | ⟨c1, c2, c3, c4⟩ | ⟨c1, c2, c3, c4, c5, c6, c7⟩ | ⟨c1, c2, c3, c4, c5, c6⟩ | ⟨c1, c2⟩ | ⟨c1, c2, c3, c4, c5, c6⟩
        all_goals go_wp2
        all_goals first
          | (go_ret; exact ⟨ret_bool (nameB_false_at k hlt (okB_not (by omega))).symm, rfl⟩)
          | (go_round
             case rel => exact ⟨k + 1, by omega, by go_num, ok_succ Hr.out hlt (okB_of (by omega))⟩
             case measure => simp [intOf]; omega)
    · go_wp2
      go_ret
      exact ⟨ret_bool (nameB_true (by omega) (by omega) (fun i h => Hr.out i h (by omega))).symm, rfl⟩

set_option maxRecDepth 10000 in
set_option maxHeartbeats 400000 in
theorem implName_any (s : ByteArray) (w : World) (hs : s.size ≤ maxLen) :
    Calls Tryz.prog 145 #[.string s] w fun e w' => e = .returned (.bool (nameB s)) ∧ w' = w := by
  unfold maxLen at hs
  by_cases h1 : s.size < 1
  · have h1b : ((s.size : Int) == 0) = true := by rw [beq_iff_eq]; omega
    go_enter Tryz.func145, Tryz.ntmps145
    go_wp2
    go_ret
    exact ⟨ret_bool (nameB_false_of_size (.inl h1)).symm, rfl⟩
  have h1b : ((s.size : Int) == 0) = false := by rw [beq_eq_false_iff_ne]; omega
  by_cases h2 : 20 < s.size
  · go_enter Tryz.func145, Tryz.ntmps145
    go_wp2
    go_ret
    exact ⟨ret_bool (nameB_false_of_size (.inr h2)).symm, rfl⟩
  have h2b : decide ((20 : Int) < (s.size : Int)) = false := by rw [decide_eq_false_iff_not]; omega
  have hp : 0 < s.size := by omega
  rcases byte_cases (s[0].toNat : Int) with ⟨c1, c2, c3, c4⟩ | ⟨c1, c2, c3, c4⟩ | ⟨c1, c2, c3, c4, c5, c6, c7⟩ | ⟨c1, c2, c3, c4, c5, c6⟩ | ⟨c1, c2⟩ | ⟨c1, c2, c3, c4, c5, c6⟩
  all_goals
    go_enter Tryz.func145, Tryz.ntmps145
    go_wp2
    try (go_ret; exact ⟨ret_bool (nameB_false_at 0 hp (okB_not (by omega))).symm, rfl⟩)
  have H0 : Hid (okB 0 (s[0].toNat : Int) = true) := okB_of (by omega)
  clear c1 c2
  go_loop [3] (fun i => ∃ k : Nat, k ≤ s.size ∧ 1 ≤ k ∧ i = .int .i64 k ∧ ∀ i (h : i < s.size), i < k → okB i (s[i].toNat : Int) = true) (fun i => s.size - (intOf i).toNat)
  case atStart => exact ⟨1, by omega, by omega, rfl, name_one hp H0.out⟩
  case round =>
    obtain ⟨k, hk, hk1, rfl, hr⟩ := hrel
    have Hr : Hid (∀ i (h : i < s.size), i < k → okB i (s[i].toNat : Int) = true) := hr
    clear hr
    by_cases hlt : k < s.size
    · rcases byte_cases (s[k].toNat : Int) with ⟨c1, c2, c3, c4⟩ | ⟨c1, c2, c3, c4⟩ | ⟨c1, c2, c3, c4, c5, c6, c7⟩ | ⟨c1, c2, c3, c4, c5, c6⟩ | ⟨c1, c2⟩ | ⟨c1, c2, c3, c4, c5, c6⟩
      all_goals go_wp2
      all_goals first
        | (go_ret; exact ⟨ret_bool (nameB_false_at k hlt (okB_not (by omega))).symm, rfl⟩)
        | (go_round
           case rel => exact ⟨k + 1, by omega, by omega, by go_num, ok_succ Hr.out hlt (okB_of (by omega))⟩
           case measure => simp [intOf]; omega)
    · go_wp2
      go_ret
      exact ⟨ret_bool (nameB_true (by omega) (by omega) (fun i h => Hr.out i h (by omega))).symm, rfl⟩

end Go.Proofs.YtaccgciopmclhaaGreatDoor
