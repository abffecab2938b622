/- 7 of this claim's texts, one behind the other. -/
import Derived.Test.YtimmoclemcnhnaaDoorPart3
import Derived.Test.YtimmoclemcnhnaaDoorPart1
import Derived.Deep.RegionHeld3
import Derived.Deep.DeepCutAuto
import Derived.Deep.AppendLies
/- The walk of the program's JarRight. Written by impljar.py. -/
namespace Go.Proofs.YtimmoclemcnhnaaDoor
open Go.RowKit

theorem hasK_all {L : List Ck} {k : Nat} {a : Ck} (h : hasK L k a = false) : ∀ j, j < k → sameK (atC L j) a = false := by
  unfold hasK at h
  rw [Bool.not_eq_false', decide_eq_true_eq] at h
  exact h
theorem hasK_some {L : List Ck} {k : Nat} (h : hasK L k (atC L k) = true) : okJ L k = false := by
  cases e : okJ L k with
  | false => rfl
  | true =>
    have h2 := okJ_apart e
    unfold hasK at h
    rw [decide_eq_true h2] at h; cases h
set_option maxRecDepth 10000 in
set_option maxHeartbeats 8000000 in
theorem jarRight_any (v : Value) (L : List Ck) (B : Nat) (w : World) (hG : MaxI w) (hs : SliceC w B v L) (hn : L.length ≤ 1048576) (hz : ∀ i, i < L.length → (atC L i).ho.size ≤ 1048576) :
    Calls Tryd.prog 77 #[v] w fun e w' => e = .returned (.bool (jarB L)) ∧ Below w.heap.size w w' := by
  obtain ⟨⟨q, cap, rfl, hg⟩, p', cap', e', hcap⟩ := hs
  obtain rfl : cap = cap' := by injection e'
  by_cases h12 : 12 < L.length
  · have HQ : Hid (jarB L = false) := jarB_long h12
    have q0 : decide ((12 : Int) < (L.length : Int)) = true := by rw [decide_eq_true_iff]; omega
    go_enter Tryd.func77, Tryd.ntmps77
    go_wp2
    go_ret
    exact ⟨ret_bool HQ.out.symm, Below.refl _ _⟩
  have q0 : decide ((12 : Int) < (L.length : Int)) = false := by rw [decide_eq_false_iff_not]; omega
  have KX : Hid (∀ j, j < L.length → ∀ W, Below w.heap.size w W → Calls Tryd.prog 123 #[ckV (atC L j)] W fun e w' => e = .returned (.bool (ckB (atC L j))) ∧ Below W.heap.size W w') := fun j hj W hb => cookieRight_any _ W (hG.on hb) (hz j hj)
  have HN : Hid (∀ k, k < L.length → okJ L k = false → jarB L = false) := fun k a b => jarB_at k a b
  have HY : Hid ((∀ i, i < L.length → okJ L i = true) → jarB L = true) := fun h => by rw [jarB_all h, decide_eq_true (by omega)]
  have HG : Hid (0 < L.length → ∃ g, q = some ⟨g, 0, none⟩ ∧ g < w.heap.size ∧ ∀ j, j < L.length → ∀ o, o < 10 → w.cell? ⟨g, j * 10 + o, none⟩ = some (ckC (atC L j) o)) := fun h0 => by
    obtain ⟨g, e, -, hgw, hc⟩ := hg h0
    exact ⟨g, e, hgw, fun j hj o ho => (hc j hj o ho).1⟩
  have hmf : ∀ (fn : Fn) (first cap : Array Value) (w : World), (Instr.makeFunc fn first cap).run Tryd.prog w = .ok (.func fn first cap) w := fun _ _ _ _ => rfl
  clear hg hz hG e'
  generalize jarB L = R at *
  go_enter Tryd.func77, Tryd.ntmps77
  go_wp2
  go_loopw [10] (fun i wr => ∃ k : Nat, k ≤ L.length ∧ i = .int .i64 k ∧ Hid (Below w.heap.size w wr) ∧ Hid (∀ j, j < k → okJ L j = true)) (fun i _ => L.length - (intOf i).toNat)
  case atStart => exact ⟨0, Nat.zero_le _, rfl, Below.refl _ _, fun j hj => absurd hj (by omega)⟩
  case round =>
    obtain ⟨k, hk, rfl, HB, HR⟩ := hrel
    by_cases hlt : k < L.length
    · obtain ⟨g, rfl, hgw, hc⟩ := HG.out (by omega)
      have HC : Hid (∀ j, j < L.length → ∀ o, o < 10 → w.cell? ⟨g, j * 10 + o, none⟩ = some (ckC (atC L j) o)) := hc
      have hgr : g < wr.heap.size := Nat.lt_of_lt_of_le hgw HB.out.size
      have KC0 : ∀ W, Below wr.heap.size wr W → Calls Tryd.prog 123 #[ckV (atC L k)] W fun e w' => e = .returned (.bool (ckB (atC L k))) ∧ Below W.heap.size W w' := fun W hb => KX.out k hlt W (HB.out.trans (hb.mono HB.out.size))
      have k0 : (0 : Int) ≤ k := by omega
      have k1 : (k : Int) < L.length := by omega
      have kc : (k : Int) ≤ cap := by omega
      have HKN : Hid (ckB (atC L k) = false → R = false) := fun e => HN.out k hlt (okJ_no e)
      have HKY0 : Hid (ckB (atC L k) = true → (k = 0 ∨ (atC L (k - 1)).ma < (atC L k).ma) → hasK L k (atC L k) = false → okJ L k = true) := fun a b c => okJ_yes a b (hasK_all c)
      have HSN : Hid (hasK L k (atC L k) = true → R = false) := fun e => HN.out k hlt (hasK_some e)
      clear hc
      generalize hcb : ckB (atC L k) = cb at *
      clear hcb
      have d0 : wr.cell? ⟨g, k * 10, none⟩ = some (.string (atC L k).na) := by rw [(bcell HB.out).1 _ _ hgw]; exact HC.out k hlt 0 (by omega)
      have d1 : wr.cell? ⟨g, k * 10 + 1, none⟩ = some (.string (atC L k).va) := by rw [(bcell HB.out).1 _ _ hgw]; exact HC.out k hlt 1 (by omega)
      have d2 : wr.cell? ⟨g, k * 10 + 2, none⟩ = some (.string (atC L k).ho) := by rw [(bcell HB.out).1 _ _ hgw]; exact HC.out k hlt 2 (by omega)
      have d3 : wr.cell? ⟨g, k * 10 + 3, none⟩ = some (.bool (atC L k).al) := by rw [(bcell HB.out).1 _ _ hgw]; exact HC.out k hlt 3 (by omega)
      have d4 : wr.cell? ⟨g, k * 10 + 4, none⟩ = some (.string (atC L k).pa) := by rw [(bcell HB.out).1 _ _ hgw]; exact HC.out k hlt 4 (by omega)
      have d5 : wr.cell? ⟨g, k * 10 + 5, none⟩ = some (.bool (atC L k).se) := by rw [(bcell HB.out).1 _ _ hgw]; exact HC.out k hlt 5 (by omega)
      have d6 : wr.cell? ⟨g, k * 10 + 6, none⟩ = some (.int .i64 (atC L k).mo) := by rw [(bcell HB.out).1 _ _ hgw]; exact HC.out k hlt 6 (by omega)
      have d7 : wr.cell? ⟨g, k * 10 + 7, none⟩ = some (.string (atC L k).pt) := by rw [(bcell HB.out).1 _ _ hgw]; exact HC.out k hlt 7 (by omega)
      have d8 : wr.cell? ⟨g, k * 10 + 8, none⟩ = some (.int .i64 (atC L k).un) := by rw [(bcell HB.out).1 _ _ hgw]; exact HC.out k hlt 8 (by omega)
      have d9 : wr.cell? ⟨g, k * 10 + 9, none⟩ = some (.int .i64 (atC L k).ma) := by rw [(bcell HB.out).1 _ _ hgw]; exact HC.out k hlt 9 (by omega)
      cases cb with
      | false =>
        have HQ : Hid (R = false) := HKN.out rfl
        clear HKN HKY0 HSN
        generalize atC L k = y at *
        obtain ⟨na, va, ho, al, pa, se, mo, pt, un, ma⟩ := y
        unfold ckV at KC0
        dsimp only at *
        obtain ⟨W0, hW⟩ : ∃ W0, W0 = wr.alloc (.cells #[.string na, .string va, .string ho, .bool al, .string pa, .bool se, .int .i64 mo, .string pt, .int .i64 un, .int .i64 ma] 90) := ⟨_, rfl⟩
        have hW0 : Hid (W0 = wr.alloc (.cells #[.string na, .string va, .string ho, .bool al, .string pa, .bool se, .int .i64 mo, .string pt, .int .i64 un, .int .i64 ma] 90)) := hW
        have HBW : Hid (Below w.heap.size w W0) := by show Below _ _ _; rw [hW]; exact HB.out.alloc HB.out.size _
        have HBr : Hid (Below wr.heap.size wr W0) := by show Below _ _ _; rw [hW]; exact (Below.refl _ _).alloc (Nat.le_refl _) _
        have c0 : W0.cell? ⟨wr.heap.size, 0, none⟩ = some (.string na) := by rw [hW]; simp
        have c1 : W0.cell? ⟨wr.heap.size, 1, none⟩ = some (.string va) := by rw [hW]; simp
        have c2 : W0.cell? ⟨wr.heap.size, 2, none⟩ = some (.string ho) := by rw [hW]; simp
        have c3 : W0.cell? ⟨wr.heap.size, 3, none⟩ = some (.bool al) := by rw [hW]; simp
        have c4 : W0.cell? ⟨wr.heap.size, 4, none⟩ = some (.string pa) := by rw [hW]; simp
        have c5 : W0.cell? ⟨wr.heap.size, 5, none⟩ = some (.bool se) := by rw [hW]; simp
        have c6 : W0.cell? ⟨wr.heap.size, 6, none⟩ = some (.int .i64 mo) := by rw [hW]; simp
        have c7 : W0.cell? ⟨wr.heap.size, 7, none⟩ = some (.string pt) := by rw [hW]; simp
        have c8 : W0.cell? ⟨wr.heap.size, 8, none⟩ = some (.int .i64 un) := by rw [hW]; simp
        have c9 : W0.cell? ⟨wr.heap.size, 9, none⟩ = some (.int .i64 ma) := by rw [hW]; simp
        have hbW : wr.heap.size < W0.heap.size := by rw [hW]; simp
        have hgW : g < W0.heap.size := Nat.lt_trans hgr hbW
        clear hW
        have KC : Hid (∀ W, Below W0.heap.size W0 W → Calls Tryd.prog 123 #[.agg #[.string na, .string va, .string ho, .bool al, .string pa, .bool se, .int .i64 mo, .string pt, .int .i64 un, .int .i64 ma]] W fun e w' => e = .returned (.bool false) ∧ Below W.heap.size W w') := fun W hb => KC0 W (HBr.out.trans (hb.mono HBr.out.size))
        clear KC0
        go_wp2_with fail
        rw [← hW0.out]
        clear hW0
        generalize hbb : wr.heap.size = b at *
        clear hbb HBr HB d0 d1 d2 d3 d4 d5 d6 d7 d8 d9
        refine wp_region_held_drew (S := (fun w' => w'.cell? ⟨b, 0, none⟩ = some (.string na) ∧ w'.cell? ⟨b, 1, none⟩ = some (.string va) ∧ w'.cell? ⟨b, 2, none⟩ = some (.string ho) ∧ w'.cell? ⟨b, 3, none⟩ = some (.bool al) ∧ w'.cell? ⟨b, 4, none⟩ = some (.string pa) ∧ w'.cell? ⟨b, 5, none⟩ = some (.bool se) ∧ w'.cell? ⟨b, 6, none⟩ = some (.int .i64 mo) ∧ w'.cell? ⟨b, 7, none⟩ = some (.string pt) ∧ w'.cell? ⟨b, 8, none⟩ = some (.int .i64 un) ∧ w'.cell? ⟨b, 9, none⟩ = some (.int .i64 ma))) (by kernel_rfl) ?_ (fun hH0 => ?_)
        · (try dsimp only)
          go_keep
        refine wpAnyH_take (i := 0) (oi := { dst := some 15, op := Op.load 90 (Operand.tmp 4), type := 90, pos := "l06_jar.go:86", after := #[], guard := none }) (v := ?va0) rfl (by kernel_rfl) (by kernel_rfl) (by kernel_rfl) (fun _ _ _ h => h) (Or.inl ⟨by rfl, ?hya0⟩) (by assumption) ?resta0
        case hya0 =>
          intro w hSw
          (try dsimp only at hSw)
          go_simp
          try with_reducible rfl
        try simp only [Act.put, List.setIfInBounds_toArray, List.set_cons_zero, List.set_cons_succ]
        refine wpAnyH_ready (rs := [1]) (by kernel_rfl) (by simp) ?_
        refine AllReadyH.cons (o := { dst := some 16, op := Op.call { callee := Callee.value (Operand.func 123), args := #[Operand.tmp 15], argTypes := #[90] }, type := 4, pos := "l06_jar.go:86", after := #[{ on := 0, ground := Ground.data }], guard := none }) rfl (fun K hK => ?_) AllReadyH.nil
        go_simp
        (go_at_call 123; refine (KC.out _ (Below.drew (Below.refl _ _))).mono ?_; rintro e w2 ⟨rfl, hb2⟩; have x0 : w2.cell? ⟨b, 0, none⟩ = some (.string na) := ((bcell hb2).1 _ _ hbW).trans c0; have x1 : w2.cell? ⟨b, 1, none⟩ = some (.string va) := ((bcell hb2).1 _ _ hbW).trans c1; have x2 : w2.cell? ⟨b, 2, none⟩ = some (.string ho) := ((bcell hb2).1 _ _ hbW).trans c2; have x3 : w2.cell? ⟨b, 3, none⟩ = some (.bool al) := ((bcell hb2).1 _ _ hbW).trans c3; have x4 : w2.cell? ⟨b, 4, none⟩ = some (.string pa) := ((bcell hb2).1 _ _ hbW).trans c4; have x5 : w2.cell? ⟨b, 5, none⟩ = some (.bool se) := ((bcell hb2).1 _ _ hbW).trans c5; have x6 : w2.cell? ⟨b, 6, none⟩ = some (.int .i64 mo) := ((bcell hb2).1 _ _ hbW).trans c6; have x7 : w2.cell? ⟨b, 7, none⟩ = some (.string pt) := ((bcell hb2).1 _ _ hbW).trans c7; have x8 : w2.cell? ⟨b, 8, none⟩ = some (.int .i64 un) := ((bcell hb2).1 _ _ hbW).trans c8; have x9 : w2.cell? ⟨b, 9, none⟩ = some (.int .i64 ma) := ((bcell hb2).1 _ _ hbW).trans c9)
        try (go_wp2_with fail)
        refine hK.out _ _ ?_ (fun hH1 => ?_)
        · (try dsimp only)
          go_keep
        clear hK K hH0
        try simp only [Act.put, List.setIfInBounds_toArray, List.set_cons_zero, List.set_cons_succ]
        refine wpAnyH_take (i := 2) (oi := { dst := some 17, op := Op.unOp UnOp.not 4 (Operand.tmp 16), type := 4, pos := "l06_jar.go:86", after := #[{ on := 1, ground := Ground.data }], guard := none }) (v := ?va2) rfl (by kernel_rfl) (by kernel_rfl) (by kernel_rfl) (fun _ _ _ h => h) (Or.inl ⟨by rfl, ?hya2⟩) (by assumption) ?resta2
        case hya2 =>
          intro w hSw
          (try dsimp only at hSw)
          go_simp
          try with_reducible rfl
        try simp only [Act.put, List.setIfInBounds_toArray, List.set_cons_zero, List.set_cons_succ]
        refine wpAnyH_take (i := 3) (oi := { dst := some 18, op := Op.move (Operand.tmp 17), type := 4, pos := "l06_jar.go:86", after := #[{ on := 2, ground := Ground.data }, { on := 1, ground := Ground.chain }], guard := none }) (v := ?va3) rfl (by kernel_rfl) (by kernel_rfl) (by kernel_rfl) (fun _ _ _ h => h) (Or.inl ⟨by rfl, ?hya3⟩) (by assumption) ?resta3
        case hya3 =>
          intro w hSw
          (try dsimp only at hSw)
          go_simp
          try with_reducible rfl
        try simp only [Act.put, List.setIfInBounds_toArray, List.set_cons_zero, List.set_cons_succ]
        refine wpAnyH_take (i := 4) (oi := { dst := some 19, op := Op.move (Operand.tmp 3), type := 3, pos := "l06_jar.go:86", after := #[{ on := 3, ground := Ground.guard }], guard := some (3, false) }) (v := undef) rfl (by kernel_rfl) (by kernel_rfl) (by kernel_rfl) (fun _ _ _ h => h) (Or.inr ⟨by rfl, rfl⟩) (by assumption) ?_
        try simp only [Act.put, List.setIfInBounds_toArray, List.set_cons_zero, List.set_cons_succ]
        refine wpAnyH_take (i := 5) (oi := { dst := some 20, op := Op.binOp BinOp.gtr 3 (Operand.tmp 19) (Operand.const (Value.int IntKind.i64 0)) 3, type := 4, pos := "l06_jar.go:86", after := #[{ on := 4, ground := Ground.data }, { on := 3, ground := Ground.guard }], guard := some (3, false) }) (v := undef) rfl (by kernel_rfl) (by kernel_rfl) (by kernel_rfl) (fun _ _ _ h => h) (Or.inr ⟨by rfl, rfl⟩) (by assumption) ?_
        try simp only [Act.put, List.setIfInBounds_toArray, List.set_cons_zero, List.set_cons_succ]
        refine wpAnyH_take (i := 6) (oi := { dst := some 21, op := Op.move (Operand.tmp 20), type := 4, pos := "l06_jar.go:86", after := #[{ on := 5, ground := Ground.data }, { on := 3, ground := Ground.chain }, { on := 3, ground := Ground.guard }], guard := some (3, false) }) (v := undef) rfl (by kernel_rfl) (by kernel_rfl) (by kernel_rfl) (fun _ _ _ h => h) (Or.inr ⟨by rfl, rfl⟩) (by assumption) ?_
        try simp only [Act.put, List.setIfInBounds_toArray, List.set_cons_zero, List.set_cons_succ]
        refine wpAnyH_take (i := 7) (oi := { dst := some 22, op := Op.move (Operand.tmp 0), type := 43, pos := "l06_jar.go:86", after := #[{ on := 6, ground := Ground.guard }], guard := some (6, true) }) (v := undef) rfl (by kernel_rfl) (by kernel_rfl) (by kernel_rfl) (fun _ _ _ h => h) (Or.inr ⟨by rfl, rfl⟩) (by assumption) ?_
        try simp only [Act.put, List.setIfInBounds_toArray, List.set_cons_zero, List.set_cons_succ]
        refine wpAnyH_take (i := 8) (oi := { dst := some 23, op := Op.move (Operand.tmp 3), type := 3, pos := "l06_jar.go:86", after := #[{ on := 6, ground := Ground.guard }], guard := some (6, true) }) (v := undef) rfl (by kernel_rfl) (by kernel_rfl) (by kernel_rfl) (fun _ _ _ h => h) (Or.inr ⟨by rfl, rfl⟩) (by assumption) ?_
        try simp only [Act.put, List.setIfInBounds_toArray, List.set_cons_zero, List.set_cons_succ]
        refine wpAnyH_take (i := 9) (oi := { dst := some 24, op := Op.binOp BinOp.sub 3 (Operand.tmp 23) (Operand.const (Value.int IntKind.i64 1)) 3, type := 3, pos := "l06_jar.go:86", after := #[{ on := 8, ground := Ground.data }, { on := 6, ground := Ground.guard }], guard := some (6, true) }) (v := undef) rfl (by kernel_rfl) (by kernel_rfl) (by kernel_rfl) (fun _ _ _ h => h) (Or.inr ⟨by rfl, rfl⟩) (by assumption) ?_
        try simp only [Act.put, List.setIfInBounds_toArray, List.set_cons_zero, List.set_cons_succ]
        refine wpAnyH_take (i := 10) (oi := { dst := some 25, op := Op.indexAddr 43 (Operand.tmp 22) (Operand.tmp 24), type := 0, pos := "l06_jar.go:86", after := #[{ on := 7, ground := Ground.data }, { on := 9, ground := Ground.data }, { on := 6, ground := Ground.guard }], guard := some (6, true) }) (v := undef) rfl (by kernel_rfl) (by kernel_rfl) (by kernel_rfl) (fun _ _ _ h => h) (Or.inr ⟨by rfl, rfl⟩) (by assumption) ?_
        try simp only [Act.put, List.setIfInBounds_toArray, List.set_cons_zero, List.set_cons_succ]
        refine wpAnyH_take (i := 11) (oi := { dst := some 26, op := Op.fieldAddr 90 (Operand.tmp 25) 9, type := 0, pos := "l06_jar.go:86", after := #[{ on := 10, ground := Ground.data }, { on := 6, ground := Ground.guard }], guard := some (6, true) }) (v := undef) rfl (by kernel_rfl) (by kernel_rfl) (by kernel_rfl) (fun _ _ _ h => h) (Or.inr ⟨by rfl, rfl⟩) (by assumption) ?_
        try simp only [Act.put, List.setIfInBounds_toArray, List.set_cons_zero, List.set_cons_succ]
        refine wpAnyH_take (i := 12) (oi := { dst := some 27, op := Op.load 2 (Operand.tmp 26), type := 2, pos := "l06_jar.go:86", after := #[{ on := 11, ground := Ground.data }, { on := 6, ground := Ground.guard }], guard := some (6, true) }) (v := undef) rfl (by kernel_rfl) (by kernel_rfl) (by kernel_rfl) (fun _ _ _ h => h) (Or.inr ⟨by rfl, rfl⟩) (by assumption) ?_
        try simp only [Act.put, List.setIfInBounds_toArray, List.set_cons_zero, List.set_cons_succ]
        refine wpAnyH_take (i := 13) (oi := { dst := some 28, op := Op.fieldAddr 90 (Operand.tmp 4) 9, type := 0, pos := "l06_jar.go:86", after := #[{ on := 6, ground := Ground.guard }], guard := some (6, true) }) (v := undef) rfl (by kernel_rfl) (by kernel_rfl) (by kernel_rfl) (fun _ _ _ h => h) (Or.inr ⟨by rfl, rfl⟩) (by assumption) ?_
        try simp only [Act.put, List.setIfInBounds_toArray, List.set_cons_zero, List.set_cons_succ]
        refine wpAnyH_take (i := 14) (oi := { dst := some 29, op := Op.load 2 (Operand.tmp 28), type := 2, pos := "l06_jar.go:86", after := #[{ on := 13, ground := Ground.data }, { on := 6, ground := Ground.guard }], guard := some (6, true) }) (v := undef) rfl (by kernel_rfl) (by kernel_rfl) (by kernel_rfl) (fun _ _ _ h => h) (Or.inr ⟨by rfl, rfl⟩) (by assumption) ?_
        try simp only [Act.put, List.setIfInBounds_toArray, List.set_cons_zero, List.set_cons_succ]
        refine wpAnyH_take (i := 15) (oi := { dst := some 30, op := Op.binOp BinOp.geq 2 (Operand.tmp 27) (Operand.tmp 29) 2, type := 4, pos := "l06_jar.go:86", after := #[{ on := 12, ground := Ground.data }, { on := 14, ground := Ground.data }, { on := 6, ground := Ground.guard }], guard := some (6, true) }) (v := undef) rfl (by kernel_rfl) (by kernel_rfl) (by kernel_rfl) (fun _ _ _ h => h) (Or.inr ⟨by rfl, rfl⟩) (by assumption) ?_
        try simp only [Act.put, List.setIfInBounds_toArray, List.set_cons_zero, List.set_cons_succ]
        refine wpAnyH_take (i := 16) (oi := { dst := some 31, op := Op.pick (Operand.tmp 21) (Operand.tmp 30) (Operand.const (Value.bool false)), type := 4, pos := "l06_jar.go:86", after := #[{ on := 6, ground := Ground.data }, { on := 15, ground := Ground.data }, { on := 3, ground := Ground.guard }], guard := some (3, false) }) (v := undef) rfl (by kernel_rfl) (by kernel_rfl) (by kernel_rfl) (fun _ _ _ h => h) (Or.inr ⟨by rfl, rfl⟩) (by assumption) ?_
        try simp only [Act.put, List.setIfInBounds_toArray, List.set_cons_zero, List.set_cons_succ]
        refine wpAnyH_take (i := 17) (oi := { dst := some 32, op := Op.pick (Operand.tmp 18) (Operand.const (Value.bool true)) (Operand.tmp 31), type := 4, pos := "l06_jar.go:86", after := #[{ on := 3, ground := Ground.data }, { on := 16, ground := Ground.data }], guard := none }) (v := ?va17) rfl (by kernel_rfl) (by kernel_rfl) (by kernel_rfl) (fun _ _ _ h => h) (Or.inl ⟨by rfl, ?hya17⟩) (by assumption) ?resta17
        case hya17 =>
          intro w hSw
          (try dsimp only at hSw)
          go_simp
          try with_reducible rfl
        try simp only [Act.put, List.setIfInBounds_toArray, List.set_cons_zero, List.set_cons_succ]
        refine wpAnyH_done (by kernel_rfl) ?_ _
        go_wp2
        go_ret
        exact ⟨ret_bool HQ.out.symm, (HBW.out.trans (Below.drew (Below.refl _ _))).trans (hb2.mono HBW.out.size)⟩
      | true =>
        have HKY1 := HKY0.out rfl
        clear HKN HKY0
        cases k with
        | zero =>
          have HKY : Hid (hasK L 0 (atC L 0) = false → okJ L 0 = true) := HKY1 (.inl rfl)
          clear HKY1
          rw [Nat.zero_mul] at d0 d1 d2 d3 d4 d5 d6 d7 d8 d9
          rw [Nat.zero_add] at d1
          rw [Nat.zero_add] at d2
          rw [Nat.zero_add] at d3
          rw [Nat.zero_add] at d4
          rw [Nat.zero_add] at d5
          rw [Nat.zero_add] at d6
          rw [Nat.zero_add] at d7
          rw [Nat.zero_add] at d8
          rw [Nat.zero_add] at d9
          generalize atC L 0 = y at *
          obtain ⟨na, va, ho, al, pa, se, mo, pt, un, ma⟩ := y
          unfold ckV at KC0
          dsimp only at *
          obtain ⟨W0, hW⟩ : ∃ W0, W0 = wr.alloc (.cells #[.string na, .string va, .string ho, .bool al, .string pa, .bool se, .int .i64 mo, .string pt, .int .i64 un, .int .i64 ma] 90) := ⟨_, rfl⟩
          have hW0 : Hid (W0 = wr.alloc (.cells #[.string na, .string va, .string ho, .bool al, .string pa, .bool se, .int .i64 mo, .string pt, .int .i64 un, .int .i64 ma] 90)) := hW
          have HBW : Hid (Below w.heap.size w W0) := by show Below _ _ _; rw [hW]; exact HB.out.alloc HB.out.size _
          have HBr : Hid (Below wr.heap.size wr W0) := by show Below _ _ _; rw [hW]; exact (Below.refl _ _).alloc (Nat.le_refl _) _
          have c0 : W0.cell? ⟨wr.heap.size, 0, none⟩ = some (.string na) := by rw [hW]; simp
          have c1 : W0.cell? ⟨wr.heap.size, 1, none⟩ = some (.string va) := by rw [hW]; simp
          have c2 : W0.cell? ⟨wr.heap.size, 2, none⟩ = some (.string ho) := by rw [hW]; simp
          have c3 : W0.cell? ⟨wr.heap.size, 3, none⟩ = some (.bool al) := by rw [hW]; simp
          have c4 : W0.cell? ⟨wr.heap.size, 4, none⟩ = some (.string pa) := by rw [hW]; simp
          have c5 : W0.cell? ⟨wr.heap.size, 5, none⟩ = some (.bool se) := by rw [hW]; simp
          have c6 : W0.cell? ⟨wr.heap.size, 6, none⟩ = some (.int .i64 mo) := by rw [hW]; simp
          have c7 : W0.cell? ⟨wr.heap.size, 7, none⟩ = some (.string pt) := by rw [hW]; simp
          have c8 : W0.cell? ⟨wr.heap.size, 8, none⟩ = some (.int .i64 un) := by rw [hW]; simp
          have c9 : W0.cell? ⟨wr.heap.size, 9, none⟩ = some (.int .i64 ma) := by rw [hW]; simp
          have hbW : wr.heap.size < W0.heap.size := by rw [hW]; simp
          have hgW : g < W0.heap.size := Nat.lt_trans hgr hbW
          clear hW
          have KC : Hid (∀ W, Below W0.heap.size W0 W → Calls Tryd.prog 123 #[.agg #[.string na, .string va, .string ho, .bool al, .string pa, .bool se, .int .i64 mo, .string pt, .int .i64 un, .int .i64 ma]] W fun e w' => e = .returned (.bool true) ∧ Below W.heap.size W w') := fun W hb => KC0 W (HBr.out.trans (hb.mono HBr.out.size))
          clear KC0
          have q2 : decide ((0 : Int) < ((0 : Nat) : Int)) = false := by decide
          go_wp2_with fail
          rw [← hW0.out]
          clear hW0
          generalize hbb : wr.heap.size = b at *
          clear hbb HBr HB d0 d1 d2 d3 d4 d5 d6 d7 d8 d9
          refine wp_region_held_drew (S := (fun w' => w'.cell? ⟨b, 0, none⟩ = some (.string na) ∧ w'.cell? ⟨b, 1, none⟩ = some (.string va) ∧ w'.cell? ⟨b, 2, none⟩ = some (.string ho) ∧ w'.cell? ⟨b, 3, none⟩ = some (.bool al) ∧ w'.cell? ⟨b, 4, none⟩ = some (.string pa) ∧ w'.cell? ⟨b, 5, none⟩ = some (.bool se) ∧ w'.cell? ⟨b, 6, none⟩ = some (.int .i64 mo) ∧ w'.cell? ⟨b, 7, none⟩ = some (.string pt) ∧ w'.cell? ⟨b, 8, none⟩ = some (.int .i64 un) ∧ w'.cell? ⟨b, 9, none⟩ = some (.int .i64 ma))) (by kernel_rfl) ?_ (fun hH0 => ?_)
          · (try dsimp only)
            go_keep
          refine wpAnyH_take (i := 0) (oi := { dst := some 15, op := Op.load 90 (Operand.tmp 4), type := 90, pos := "l06_jar.go:86", after := #[], guard := none }) (v := ?vb0) rfl (by kernel_rfl) (by kernel_rfl) (by kernel_rfl) (fun _ _ _ h => h) (Or.inl ⟨by rfl, ?hyb0⟩) (by assumption) ?restb0
          case hyb0 =>
            intro w hSw
            (try dsimp only at hSw)
            go_simp
            try with_reducible rfl
          try simp only [Act.put, List.setIfInBounds_toArray, List.set_cons_zero, List.set_cons_succ]
          refine wpAnyH_ready (rs := [1]) (by kernel_rfl) (by simp) ?_
          refine AllReadyH.cons (o := { dst := some 16, op := Op.call { callee := Callee.value (Operand.func 123), args := #[Operand.tmp 15], argTypes := #[90] }, type := 4, pos := "l06_jar.go:86", after := #[{ on := 0, ground := Ground.data }], guard := none }) rfl (fun K hK => ?_) AllReadyH.nil
          go_simp
          (go_at_call 123; refine (KC.out _ (Below.drew (Below.refl _ _))).mono ?_; rintro e w2 ⟨rfl, hb2⟩; have x0 : w2.cell? ⟨b, 0, none⟩ = some (.string na) := ((bcell hb2).1 _ _ hbW).trans c0; have x1 : w2.cell? ⟨b, 1, none⟩ = some (.string va) := ((bcell hb2).1 _ _ hbW).trans c1; have x2 : w2.cell? ⟨b, 2, none⟩ = some (.string ho) := ((bcell hb2).1 _ _ hbW).trans c2; have x3 : w2.cell? ⟨b, 3, none⟩ = some (.bool al) := ((bcell hb2).1 _ _ hbW).trans c3; have x4 : w2.cell? ⟨b, 4, none⟩ = some (.string pa) := ((bcell hb2).1 _ _ hbW).trans c4; have x5 : w2.cell? ⟨b, 5, none⟩ = some (.bool se) := ((bcell hb2).1 _ _ hbW).trans c5; have x6 : w2.cell? ⟨b, 6, none⟩ = some (.int .i64 mo) := ((bcell hb2).1 _ _ hbW).trans c6; have x7 : w2.cell? ⟨b, 7, none⟩ = some (.string pt) := ((bcell hb2).1 _ _ hbW).trans c7; have x8 : w2.cell? ⟨b, 8, none⟩ = some (.int .i64 un) := ((bcell hb2).1 _ _ hbW).trans c8; have x9 : w2.cell? ⟨b, 9, none⟩ = some (.int .i64 ma) := ((bcell hb2).1 _ _ hbW).trans c9)
          try (go_wp2_with fail)
          refine hK.out _ _ ?_ (fun hH1 => ?_)
          · (try dsimp only)
            go_keep
          clear hK K hH0
          try simp only [Act.put, List.setIfInBounds_toArray, List.set_cons_zero, List.set_cons_succ]
          refine wpAnyH_take (i := 2) (oi := { dst := some 17, op := Op.unOp UnOp.not 4 (Operand.tmp 16), type := 4, pos := "l06_jar.go:86", after := #[{ on := 1, ground := Ground.data }], guard := none }) (v := ?vb2) rfl (by kernel_rfl) (by kernel_rfl) (by kernel_rfl) (fun _ _ _ h => h) (Or.inl ⟨by rfl, ?hyb2⟩) (by assumption) ?restb2
          case hyb2 =>
            intro w hSw
            (try dsimp only at hSw)
            go_simp
            try with_reducible rfl
          try simp only [Act.put, List.setIfInBounds_toArray, List.set_cons_zero, List.set_cons_succ]
          refine wpAnyH_take (i := 3) (oi := { dst := some 18, op := Op.move (Operand.tmp 17), type := 4, pos := "l06_jar.go:86", after := #[{ on := 2, ground := Ground.data }, { on := 1, ground := Ground.chain }], guard := none }) (v := ?vb3) rfl (by kernel_rfl) (by kernel_rfl) (by kernel_rfl) (fun _ _ _ h => h) (Or.inl ⟨by rfl, ?hyb3⟩) (by assumption) ?restb3
          case hyb3 =>
            intro w hSw
            (try dsimp only at hSw)
            go_simp
            try with_reducible rfl
          try simp only [Act.put, List.setIfInBounds_toArray, List.set_cons_zero, List.set_cons_succ]
          refine wpAnyH_take (i := 4) (oi := { dst := some 19, op := Op.move (Operand.tmp 3), type := 3, pos := "l06_jar.go:86", after := #[{ on := 3, ground := Ground.guard }], guard := some (3, false) }) (v := ?vb4) rfl (by kernel_rfl) (by kernel_rfl) (by kernel_rfl) (fun _ _ _ h => h) (Or.inl ⟨by rfl, ?hyb4⟩) (by assumption) ?restb4
          case hyb4 =>
            intro w hSw
            (try dsimp only at hSw)
            go_simp
            try with_reducible rfl
          try simp only [Act.put, List.setIfInBounds_toArray, List.set_cons_zero, List.set_cons_succ]
          refine wpAnyH_take (i := 5) (oi := { dst := some 20, op := Op.binOp BinOp.gtr 3 (Operand.tmp 19) (Operand.const (Value.int IntKind.i64 0)) 3, type := 4, pos := "l06_jar.go:86", after := #[{ on := 4, ground := Ground.data }, { on := 3, ground := Ground.guard }], guard := some (3, false) }) (v := ?vb5) rfl (by kernel_rfl) (by kernel_rfl) (by kernel_rfl) (fun _ _ _ h => h) (Or.inl ⟨by rfl, ?hyb5⟩) (by assumption) ?restb5
          case hyb5 =>
            intro w hSw
            (try dsimp only at hSw)
            go_simp
            try with_reducible rfl
          try simp only [Act.put, List.setIfInBounds_toArray, List.set_cons_zero, List.set_cons_succ]
          refine wpAnyH_take (i := 6) (oi := { dst := some 21, op := Op.move (Operand.tmp 20), type := 4, pos := "l06_jar.go:86", after := #[{ on := 5, ground := Ground.data }, { on := 3, ground := Ground.chain }, { on := 3, ground := Ground.guard }], guard := some (3, false) }) (v := ?vb6) rfl (by kernel_rfl) (by kernel_rfl) (by kernel_rfl) (fun _ _ _ h => h) (Or.inl ⟨by rfl, ?hyb6⟩) (by assumption) ?restb6
          case hyb6 =>
            intro w hSw
            (try dsimp only at hSw)
            go_simp
            try with_reducible rfl
          try simp only [Act.put, List.setIfInBounds_toArray, List.set_cons_zero, List.set_cons_succ]
          refine wpAnyH_take (i := 7) (oi := { dst := some 22, op := Op.move (Operand.tmp 0), type := 43, pos := "l06_jar.go:86", after := #[{ on := 6, ground := Ground.guard }], guard := some (6, true) }) (v := undef) rfl (by kernel_rfl) (by kernel_rfl) (by kernel_rfl) (fun _ _ _ h => h) (Or.inr ⟨by rfl, rfl⟩) (by assumption) ?_
          try simp only [Act.put, List.setIfInBounds_toArray, List.set_cons_zero, List.set_cons_succ]
          refine wpAnyH_take (i := 8) (oi := { dst := some 23, op := Op.move (Operand.tmp 3), type := 3, pos := "l06_jar.go:86", after := #[{ on := 6, ground := Ground.guard }], guard := some (6, true) }) (v := undef) rfl (by kernel_rfl) (by kernel_rfl) (by kernel_rfl) (fun _ _ _ h => h) (Or.inr ⟨by rfl, rfl⟩) (by assumption) ?_
          try simp only [Act.put, List.setIfInBounds_toArray, List.set_cons_zero, List.set_cons_succ]
          refine wpAnyH_take (i := 9) (oi := { dst := some 24, op := Op.binOp BinOp.sub 3 (Operand.tmp 23) (Operand.const (Value.int IntKind.i64 1)) 3, type := 3, pos := "l06_jar.go:86", after := #[{ on := 8, ground := Ground.data }, { on := 6, ground := Ground.guard }], guard := some (6, true) }) (v := undef) rfl (by kernel_rfl) (by kernel_rfl) (by kernel_rfl) (fun _ _ _ h => h) (Or.inr ⟨by rfl, rfl⟩) (by assumption) ?_
          try simp only [Act.put, List.setIfInBounds_toArray, List.set_cons_zero, List.set_cons_succ]
          refine wpAnyH_take (i := 10) (oi := { dst := some 25, op := Op.indexAddr 43 (Operand.tmp 22) (Operand.tmp 24), type := 0, pos := "l06_jar.go:86", after := #[{ on := 7, ground := Ground.data }, { on := 9, ground := Ground.data }, { on := 6, ground := Ground.guard }], guard := some (6, true) }) (v := undef) rfl (by kernel_rfl) (by kernel_rfl) (by kernel_rfl) (fun _ _ _ h => h) (Or.inr ⟨by rfl, rfl⟩) (by assumption) ?_
          try simp only [Act.put, List.setIfInBounds_toArray, List.set_cons_zero, List.set_cons_succ]
          refine wpAnyH_take (i := 11) (oi := { dst := some 26, op := Op.fieldAddr 90 (Operand.tmp 25) 9, type := 0, pos := "l06_jar.go:86", after := #[{ on := 10, ground := Ground.data }, { on := 6, ground := Ground.guard }], guard := some (6, true) }) (v := undef) rfl (by kernel_rfl) (by kernel_rfl) (by kernel_rfl) (fun _ _ _ h => h) (Or.inr ⟨by rfl, rfl⟩) (by assumption) ?_
          try simp only [Act.put, List.setIfInBounds_toArray, List.set_cons_zero, List.set_cons_succ]
          refine wpAnyH_take (i := 12) (oi := { dst := some 27, op := Op.load 2 (Operand.tmp 26), type := 2, pos := "l06_jar.go:86", after := #[{ on := 11, ground := Ground.data }, { on := 6, ground := Ground.guard }], guard := some (6, true) }) (v := undef) rfl (by kernel_rfl) (by kernel_rfl) (by kernel_rfl) (fun _ _ _ h => h) (Or.inr ⟨by rfl, rfl⟩) (by assumption) ?_
          try simp only [Act.put, List.setIfInBounds_toArray, List.set_cons_zero, List.set_cons_succ]
          refine wpAnyH_take (i := 13) (oi := { dst := some 28, op := Op.fieldAddr 90 (Operand.tmp 4) 9, type := 0, pos := "l06_jar.go:86", after := #[{ on := 6, ground := Ground.guard }], guard := some (6, true) }) (v := undef) rfl (by kernel_rfl) (by kernel_rfl) (by kernel_rfl) (fun _ _ _ h => h) (Or.inr ⟨by rfl, rfl⟩) (by assumption) ?_
          try simp only [Act.put, List.setIfInBounds_toArray, List.set_cons_zero, List.set_cons_succ]
          refine wpAnyH_take (i := 14) (oi := { dst := some 29, op := Op.load 2 (Operand.tmp 28), type := 2, pos := "l06_jar.go:86", after := #[{ on := 13, ground := Ground.data }, { on := 6, ground := Ground.guard }], guard := some (6, true) }) (v := undef) rfl (by kernel_rfl) (by kernel_rfl) (by kernel_rfl) (fun _ _ _ h => h) (Or.inr ⟨by rfl, rfl⟩) (by assumption) ?_
          try simp only [Act.put, List.setIfInBounds_toArray, List.set_cons_zero, List.set_cons_succ]
          refine wpAnyH_take (i := 15) (oi := { dst := some 30, op := Op.binOp BinOp.geq 2 (Operand.tmp 27) (Operand.tmp 29) 2, type := 4, pos := "l06_jar.go:86", after := #[{ on := 12, ground := Ground.data }, { on := 14, ground := Ground.data }, { on := 6, ground := Ground.guard }], guard := some (6, true) }) (v := undef) rfl (by kernel_rfl) (by kernel_rfl) (by kernel_rfl) (fun _ _ _ h => h) (Or.inr ⟨by rfl, rfl⟩) (by assumption) ?_
          try simp only [Act.put, List.setIfInBounds_toArray, List.set_cons_zero, List.set_cons_succ]
          refine wpAnyH_take (i := 16) (oi := { dst := some 31, op := Op.pick (Operand.tmp 21) (Operand.tmp 30) (Operand.const (Value.bool false)), type := 4, pos := "l06_jar.go:86", after := #[{ on := 6, ground := Ground.data }, { on := 15, ground := Ground.data }, { on := 3, ground := Ground.guard }], guard := some (3, false) }) (v := ?vb16) rfl (by kernel_rfl) (by kernel_rfl) (by kernel_rfl) (fun _ _ _ h => h) (Or.inl ⟨by rfl, ?hyb16⟩) (by assumption) ?restb16
          case hyb16 =>
            intro w hSw
            (try dsimp only at hSw)
            go_simp
            try with_reducible rfl
          try simp only [Act.put, List.setIfInBounds_toArray, List.set_cons_zero, List.set_cons_succ]
          refine wpAnyH_take (i := 17) (oi := { dst := some 32, op := Op.pick (Operand.tmp 18) (Operand.const (Value.bool true)) (Operand.tmp 31), type := 4, pos := "l06_jar.go:86", after := #[{ on := 3, ground := Ground.data }, { on := 16, ground := Ground.data }], guard := none }) (v := ?vb17) rfl (by kernel_rfl) (by kernel_rfl) (by kernel_rfl) (fun _ _ _ h => h) (Or.inl ⟨by rfl, ?hyb17⟩) (by assumption) ?restb17
          case hyb17 =>
            intro w hSw
            (try dsimp only at hSw)
            go_simp
            try with_reducible rfl
          try simp only [Act.put, List.setIfInBounds_toArray, List.set_cons_zero, List.set_cons_succ]
          refine wpAnyH_done (by kernel_rfl) ?_ _
          have B2 : Hid (Below w.heap.size w w2) := (HBW.out.trans (Below.drew (Below.refl _ _))).trans (hb2.mono HBW.out.size)
          have hg2 : g < w2.heap.size := Nat.lt_of_lt_of_le hgW (Nat.le_trans (Below.drew (Below.refl W0.heap.size W0)).size hb2.size)
          have hb22 : b < w2.heap.size := Nat.lt_of_lt_of_le hbW (Nat.le_trans (Below.drew (Below.refl W0.heap.size W0)).size hb2.size)
          clear hb2
          have KF : Hid (∀ W, Below w2.heap.size w2 W → Calls Tryd.prog 124 #[.slice (some ⟨g, 0, none⟩) 0 0, .func (.func 126) #[.agg #[.string ho, .bool al, .string pa, .string pt, .string na]] #[]] W fun e w' => e = .returned (.bool (hasK L 0 ⟨na, va, ho, al, pa, se, mo, pt, un, ma⟩)) ∧ Below W.heap.size W w') := fun W hb => containsHas_any g 0 L ⟨na, va, ho, al, pa, se, mo, pt, un, ma⟩ W (Nat.lt_of_lt_of_le hg2 hb.size) (by omega) hn (fun j hj o ho => by rw [(bcell (B2.out.trans (hb.mono B2.out.size))).1 _ _ hgw]; exact HC.out j (by omega) o ho)
          have KP : Hid (∀ W, Calls Tryd.prog 125 #[.agg #[.string na, .string va, .string ho, .bool al, .string pa, .bool se, .int .i64 mo, .string pt, .int .i64 un, .int .i64 ma]] W fun e w' => e = .returned (.agg #[.string ho, .bool al, .string pa, .string pt, .string na]) ∧ Below W.heap.size W w') := fun W => placeOf_any ⟨na, va, ho, al, pa, se, mo, pt, un, ma⟩ W
          have HS1 : Hid (hasK L 0 ⟨na, va, ho, al, pa, se, mo, pt, un, ma⟩ = true → R = false) := HSN.out
          have HS2 : Hid (hasK L 0 ⟨na, va, ho, al, pa, se, mo, pt, un, ma⟩ = false → okJ L 0 = true) := HKY.out
          clear HSN HKY
          generalize hasK L 0 ⟨na, va, ho, al, pa, se, mo, pt, un, ma⟩ = hs at *
          go_wp2_with fail
          go_region_held3 (fun w' => w'.cell? ⟨b, 0, none⟩ = some (.string na) ∧ w'.cell? ⟨b, 1, none⟩ = some (.string va) ∧ w'.cell? ⟨b, 2, none⟩ = some (.string ho) ∧ w'.cell? ⟨b, 3, none⟩ = some (.bool al) ∧ w'.cell? ⟨b, 4, none⟩ = some (.string pa) ∧ w'.cell? ⟨b, 5, none⟩ = some (.bool se) ∧ w'.cell? ⟨b, 6, none⟩ = some (.int .i64 mo) ∧ w'.cell? ⟨b, 7, none⟩ = some (.string pt) ∧ w'.cell? ⟨b, 8, none⟩ = some (.int .i64 un) ∧ w'.cell? ⟨b, 9, none⟩ = some (.int .i64 ma)) (go_keep)
            (first | (go_at_call 125; refine (KP.out _).mono ?_; rintro e w3 ⟨rfl, hb3⟩; have A3 : Below w2.heap.size w2 w3 := (Below.drew (Below.refl _ _)).trans hb3; have y0 : w3.cell? ⟨b, 0, none⟩ = some (.string na) := ((bcell A3).1 _ _ hb22).trans x0; have y1 : w3.cell? ⟨b, 1, none⟩ = some (.string va) := ((bcell A3).1 _ _ hb22).trans x1; have y2 : w3.cell? ⟨b, 2, none⟩ = some (.string ho) := ((bcell A3).1 _ _ hb22).trans x2; have y3 : w3.cell? ⟨b, 3, none⟩ = some (.bool al) := ((bcell A3).1 _ _ hb22).trans x3; have y4 : w3.cell? ⟨b, 4, none⟩ = some (.string pa) := ((bcell A3).1 _ _ hb22).trans x4; have y5 : w3.cell? ⟨b, 5, none⟩ = some (.bool se) := ((bcell A3).1 _ _ hb22).trans x5; have y6 : w3.cell? ⟨b, 6, none⟩ = some (.int .i64 mo) := ((bcell A3).1 _ _ hb22).trans x6; have y7 : w3.cell? ⟨b, 7, none⟩ = some (.string pt) := ((bcell A3).1 _ _ hb22).trans x7; have y8 : w3.cell? ⟨b, 8, none⟩ = some (.int .i64 un) := ((bcell A3).1 _ _ hb22).trans x8; have y9 : w3.cell? ⟨b, 9, none⟩ = some (.int .i64 ma) := ((bcell A3).1 _ _ hb22).trans x9) | (go_at_call 124; refine (KF.out _ (by first | exact A3 | exact A3.trans (Below.drew (Below.refl _ _)))).mono ?_; rintro e w4 ⟨rfl, hb4⟩; have A4 : Below w2.heap.size w2 w4 := A3.trans (hb4.mono A3.size); have z0 : w4.cell? ⟨b, 0, none⟩ = some (.string na) := ((bcell A4).1 _ _ hb22).trans x0; have z1 : w4.cell? ⟨b, 1, none⟩ = some (.string va) := ((bcell A4).1 _ _ hb22).trans x1; have z2 : w4.cell? ⟨b, 2, none⟩ = some (.string ho) := ((bcell A4).1 _ _ hb22).trans x2; have z3 : w4.cell? ⟨b, 3, none⟩ = some (.bool al) := ((bcell A4).1 _ _ hb22).trans x3; have z4 : w4.cell? ⟨b, 4, none⟩ = some (.string pa) := ((bcell A4).1 _ _ hb22).trans x4; have z5 : w4.cell? ⟨b, 5, none⟩ = some (.bool se) := ((bcell A4).1 _ _ hb22).trans x5; have z6 : w4.cell? ⟨b, 6, none⟩ = some (.int .i64 mo) := ((bcell A4).1 _ _ hb22).trans x6; have z7 : w4.cell? ⟨b, 7, none⟩ = some (.string pt) := ((bcell A4).1 _ _ hb22).trans x7; have z8 : w4.cell? ⟨b, 8, none⟩ = some (.int .i64 un) := ((bcell A4).1 _ _ hb22).trans x8; have z9 : w4.cell? ⟨b, 9, none⟩ = some (.int .i64 ma) := ((bcell A4).1 _ _ hb22).trans x9))
          have B4 : Hid (Below w.heap.size w w4) := B2.out.trans (A4.mono B2.out.size)
          clear A3 A4 hb3 hb4
          cases hs with
          | true =>
            have HQ : Hid (R = false) := HS1.out rfl
            go_wp2
            go_ret
            exact ⟨ret_bool HQ.out.symm, B4.out⟩
          | false =>
            have HK2 : Hid (okJ L 0 = true) := HS2.out rfl
            go_wp2
            go_roundw
            case rel => exact ⟨1, by omega, by go_num, B4, okJ_succ (k := 0) (fun i hi => absurd hi (by omega)) HK2.out⟩
            case measure => simp [intOf]; omega
        | succ m =>
          have cm0 : wr.cell? ⟨g, m * 10 + 9, none⟩ = some (.int .i64 (atC L m).ma) := by rw [(bcell HB.out).1 _ _ hgw]; exact HC.out m (by omega) 9 (by omega)
          have HMN : Hid (¬ (atC L m).ma < (atC L (m + 1)).ma → R = false) := fun e => HN.out (m + 1) hlt (okJ_made e)
          have HKY2 : Hid ((atC L m).ma < (atC L (m + 1)).ma → hasK L (m + 1) (atC L (m + 1)) = false → okJ L (m + 1) = true) := fun a => HKY1 (.inr a)
          clear HKY1
          generalize hpm : (atC L m).ma = pm at *
          clear hpm
          have q2 : decide ((0 : Int) < ((m : Int) + 1)) = true := by rw [decide_eq_true_iff]; omega
          have hw1 : IntKind.i64.wrap ((m : Int) + 1 - 1) = m := by
            rw [IntKind.wrap_i64]; omega
          have hw2 : IntKind.i64.wrap (m : Int) = m := by rw [IntKind.wrap_i64]; omega
          have p0 : (0 : Int) ≤ (m : Int) + 1 := by omega
          have p1 : (m : Int) + 1 < L.length := by omega
          have pc : (m : Int) + 1 ≤ cap := by omega
          have m0 : (0 : Int) ≤ m := by omega
          have m1 : (m : Int) < L.length := by omega
          generalize atC L (m + 1) = y at *
          obtain ⟨na, va, ho, al, pa, se, mo, pt, un, ma⟩ := y
          unfold ckV at KC0
          dsimp only at *
          obtain ⟨W0, hW⟩ : ∃ W0, W0 = wr.alloc (.cells #[.string na, .string va, .string ho, .bool al, .string pa, .bool se, .int .i64 mo, .string pt, .int .i64 un, .int .i64 ma] 90) := ⟨_, rfl⟩
          have hW0 : Hid (W0 = wr.alloc (.cells #[.string na, .string va, .string ho, .bool al, .string pa, .bool se, .int .i64 mo, .string pt, .int .i64 un, .int .i64 ma] 90)) := hW
          have HBW : Hid (Below w.heap.size w W0) := by show Below _ _ _; rw [hW]; exact HB.out.alloc HB.out.size _
          have HBr : Hid (Below wr.heap.size wr W0) := by show Below _ _ _; rw [hW]; exact (Below.refl _ _).alloc (Nat.le_refl _) _
          have c0 : W0.cell? ⟨wr.heap.size, 0, none⟩ = some (.string na) := by rw [hW]; simp
          have c1 : W0.cell? ⟨wr.heap.size, 1, none⟩ = some (.string va) := by rw [hW]; simp
          have c2 : W0.cell? ⟨wr.heap.size, 2, none⟩ = some (.string ho) := by rw [hW]; simp
          have c3 : W0.cell? ⟨wr.heap.size, 3, none⟩ = some (.bool al) := by rw [hW]; simp
          have c4 : W0.cell? ⟨wr.heap.size, 4, none⟩ = some (.string pa) := by rw [hW]; simp
          have c5 : W0.cell? ⟨wr.heap.size, 5, none⟩ = some (.bool se) := by rw [hW]; simp
          have c6 : W0.cell? ⟨wr.heap.size, 6, none⟩ = some (.int .i64 mo) := by rw [hW]; simp
          have c7 : W0.cell? ⟨wr.heap.size, 7, none⟩ = some (.string pt) := by rw [hW]; simp
          have c8 : W0.cell? ⟨wr.heap.size, 8, none⟩ = some (.int .i64 un) := by rw [hW]; simp
          have c9 : W0.cell? ⟨wr.heap.size, 9, none⟩ = some (.int .i64 ma) := by rw [hW]; simp
          have hbW : wr.heap.size < W0.heap.size := by rw [hW]; simp
          have hgW : g < W0.heap.size := Nat.lt_trans hgr hbW
          clear hW
          have KC : Hid (∀ W, Below W0.heap.size W0 W → Calls Tryd.prog 123 #[.agg #[.string na, .string va, .string ho, .bool al, .string pa, .bool se, .int .i64 mo, .string pt, .int .i64 un, .int .i64 ma]] W fun e w' => e = .returned (.bool true) ∧ Below W.heap.size W w') := fun W hb => KC0 W (HBr.out.trans (hb.mono HBr.out.size))
          have cm : W0.cell? ⟨g, m * 10 + 9, none⟩ = some (.int .i64 pm) := ((bcell HBr.out).1 _ _ hgr).trans cm0
          clear KC0 cm0
          by_cases hlm : pm < ma
          · have qg : decide (ma ≤ pm) = false := by rw [decide_eq_false_iff_not]; omega
            have HKY : Hid (hasK L (m + 1) ⟨na, va, ho, al, pa, se, mo, pt, un, ma⟩ = false → okJ L (m + 1) = true) := HKY2.out hlm
            clear HKY2 HMN
            go_wp2_with fail
            rw [← hW0.out]
            clear hW0
            generalize hbb : wr.heap.size = b at *
            clear hbb HBr HB d0 d1 d2 d3 d4 d5 d6 d7 d8 d9
            refine wp_region_held_drew (S := (fun w' => w'.cell? ⟨b, 0, none⟩ = some (.string na) ∧ w'.cell? ⟨b, 1, none⟩ = some (.string va) ∧ w'.cell? ⟨b, 2, none⟩ = some (.string ho) ∧ w'.cell? ⟨b, 3, none⟩ = some (.bool al) ∧ w'.cell? ⟨b, 4, none⟩ = some (.string pa) ∧ w'.cell? ⟨b, 5, none⟩ = some (.bool se) ∧ w'.cell? ⟨b, 6, none⟩ = some (.int .i64 mo) ∧ w'.cell? ⟨b, 7, none⟩ = some (.string pt) ∧ w'.cell? ⟨b, 8, none⟩ = some (.int .i64 un) ∧ w'.cell? ⟨b, 9, none⟩ = some (.int .i64 ma) ∧ w'.cell? ⟨g, m * 10 + 9, none⟩ = some (.int .i64 pm))) (by kernel_rfl) ?_ (fun hH0 => ?_)
            · (try dsimp only)
              go_keep
            refine wpAnyH_take (i := 0) (oi := { dst := some 15, op := Op.load 90 (Operand.tmp 4), type := 90, pos := "l06_jar.go:86", after := #[], guard := none }) (v := ?vc0) rfl (by kernel_rfl) (by kernel_rfl) (by kernel_rfl) (fun _ _ _ h => h) (Or.inl ⟨by rfl, ?hyc0⟩) (by assumption) ?restc0
            case hyc0 =>
              intro w hSw
              (try dsimp only at hSw)
              go_simp
              try with_reducible rfl
            try simp only [Act.put, List.setIfInBounds_toArray, List.set_cons_zero, List.set_cons_succ]
            refine wpAnyH_ready (rs := [1]) (by kernel_rfl) (by simp) ?_
            refine AllReadyH.cons (o := { dst := some 16, op := Op.call { callee := Callee.value (Operand.func 123), args := #[Operand.tmp 15], argTypes := #[90] }, type := 4, pos := "l06_jar.go:86", after := #[{ on := 0, ground := Ground.data }], guard := none }) rfl (fun K hK => ?_) AllReadyH.nil
            go_simp
            (go_at_call 123; refine (KC.out _ (Below.drew (Below.refl _ _))).mono ?_; rintro e w2 ⟨rfl, hb2⟩; have x0 : w2.cell? ⟨b, 0, none⟩ = some (.string na) := ((bcell hb2).1 _ _ hbW).trans c0; have x1 : w2.cell? ⟨b, 1, none⟩ = some (.string va) := ((bcell hb2).1 _ _ hbW).trans c1; have x2 : w2.cell? ⟨b, 2, none⟩ = some (.string ho) := ((bcell hb2).1 _ _ hbW).trans c2; have x3 : w2.cell? ⟨b, 3, none⟩ = some (.bool al) := ((bcell hb2).1 _ _ hbW).trans c3; have x4 : w2.cell? ⟨b, 4, none⟩ = some (.string pa) := ((bcell hb2).1 _ _ hbW).trans c4; have x5 : w2.cell? ⟨b, 5, none⟩ = some (.bool se) := ((bcell hb2).1 _ _ hbW).trans c5; have x6 : w2.cell? ⟨b, 6, none⟩ = some (.int .i64 mo) := ((bcell hb2).1 _ _ hbW).trans c6; have x7 : w2.cell? ⟨b, 7, none⟩ = some (.string pt) := ((bcell hb2).1 _ _ hbW).trans c7; have x8 : w2.cell? ⟨b, 8, none⟩ = some (.int .i64 un) := ((bcell hb2).1 _ _ hbW).trans c8; have x9 : w2.cell? ⟨b, 9, none⟩ = some (.int .i64 ma) := ((bcell hb2).1 _ _ hbW).trans c9; have xm : w2.cell? ⟨g, m * 10 + 9, none⟩ = some (.int .i64 pm) := ((bcell hb2).1 _ _ hgW).trans cm)
            try (go_wp2_with fail)
            refine hK.out _ _ ?_ (fun hH1 => ?_)
            · (try dsimp only)
              go_keep
            clear hK K hH0
            try simp only [Act.put, List.setIfInBounds_toArray, List.set_cons_zero, List.set_cons_succ]
            refine wpAnyH_take (i := 2) (oi := { dst := some 17, op := Op.unOp UnOp.not 4 (Operand.tmp 16), type := 4, pos := "l06_jar.go:86", after := #[{ on := 1, ground := Ground.data }], guard := none }) (v := ?vc2) rfl (by kernel_rfl) (by kernel_rfl) (by kernel_rfl) (fun _ _ _ h => h) (Or.inl ⟨by rfl, ?hyc2⟩) (by assumption) ?restc2
            case hyc2 =>
              intro w hSw
              (try dsimp only at hSw)
              go_simp
              try with_reducible rfl
            try simp only [Act.put, List.setIfInBounds_toArray, List.set_cons_zero, List.set_cons_succ]
            refine wpAnyH_take (i := 3) (oi := { dst := some 18, op := Op.move (Operand.tmp 17), type := 4, pos := "l06_jar.go:86", after := #[{ on := 2, ground := Ground.data }, { on := 1, ground := Ground.chain }], guard := none }) (v := ?vc3) rfl (by kernel_rfl) (by kernel_rfl) (by kernel_rfl) (fun _ _ _ h => h) (Or.inl ⟨by rfl, ?hyc3⟩) (by assumption) ?restc3
            case hyc3 =>
              intro w hSw
              (try dsimp only at hSw)
              go_simp
              try with_reducible rfl
            try simp only [Act.put, List.setIfInBounds_toArray, List.set_cons_zero, List.set_cons_succ]
            refine wpAnyH_take (i := 4) (oi := { dst := some 19, op := Op.move (Operand.tmp 3), type := 3, pos := "l06_jar.go:86", after := #[{ on := 3, ground := Ground.guard }], guard := some (3, false) }) (v := ?vc4) rfl (by kernel_rfl) (by kernel_rfl) (by kernel_rfl) (fun _ _ _ h => h) (Or.inl ⟨by rfl, ?hyc4⟩) (by assumption) ?restc4
            case hyc4 =>
              intro w hSw
              (try dsimp only at hSw)
              go_simp
              try with_reducible rfl
            try simp only [Act.put, List.setIfInBounds_toArray, List.set_cons_zero, List.set_cons_succ]
            refine wpAnyH_take (i := 5) (oi := { dst := some 20, op := Op.binOp BinOp.gtr 3 (Operand.tmp 19) (Operand.const (Value.int IntKind.i64 0)) 3, type := 4, pos := "l06_jar.go:86", after := #[{ on := 4, ground := Ground.data }, { on := 3, ground := Ground.guard }], guard := some (3, false) }) (v := ?vc5) rfl (by kernel_rfl) (by kernel_rfl) (by kernel_rfl) (fun _ _ _ h => h) (Or.inl ⟨by rfl, ?hyc5⟩) (by assumption) ?restc5
            case hyc5 =>
              intro w hSw
              (try dsimp only at hSw)
              go_simp
              try with_reducible rfl
            try simp only [Act.put, List.setIfInBounds_toArray, List.set_cons_zero, List.set_cons_succ]
            refine wpAnyH_take (i := 6) (oi := { dst := some 21, op := Op.move (Operand.tmp 20), type := 4, pos := "l06_jar.go:86", after := #[{ on := 5, ground := Ground.data }, { on := 3, ground := Ground.chain }, { on := 3, ground := Ground.guard }], guard := some (3, false) }) (v := ?vc6) rfl (by kernel_rfl) (by kernel_rfl) (by kernel_rfl) (fun _ _ _ h => h) (Or.inl ⟨by rfl, ?hyc6⟩) (by assumption) ?restc6
            case hyc6 =>
              intro w hSw
              (try dsimp only at hSw)
              go_simp
              try with_reducible rfl
            try simp only [Act.put, List.setIfInBounds_toArray, List.set_cons_zero, List.set_cons_succ]
            refine wpAnyH_take (i := 7) (oi := { dst := some 22, op := Op.move (Operand.tmp 0), type := 43, pos := "l06_jar.go:86", after := #[{ on := 6, ground := Ground.guard }], guard := some (6, true) }) (v := ?vc7) rfl (by kernel_rfl) (by kernel_rfl) (by kernel_rfl) (fun _ _ _ h => h) (Or.inl ⟨by rfl, ?hyc7⟩) (by assumption) ?restc7
            case hyc7 =>
              intro w hSw
              (try dsimp only at hSw)
              go_simp
              try with_reducible rfl
            try simp only [Act.put, List.setIfInBounds_toArray, List.set_cons_zero, List.set_cons_succ]
            refine wpAnyH_take (i := 8) (oi := { dst := some 23, op := Op.move (Operand.tmp 3), type := 3, pos := "l06_jar.go:86", after := #[{ on := 6, ground := Ground.guard }], guard := some (6, true) }) (v := ?vc8) rfl (by kernel_rfl) (by kernel_rfl) (by kernel_rfl) (fun _ _ _ h => h) (Or.inl ⟨by rfl, ?hyc8⟩) (by assumption) ?restc8
            case hyc8 =>
              intro w hSw
              (try dsimp only at hSw)
              go_simp
              try with_reducible rfl
            try simp only [Act.put, List.setIfInBounds_toArray, List.set_cons_zero, List.set_cons_succ]
            refine wpAnyH_take (i := 9) (oi := { dst := some 24, op := Op.binOp BinOp.sub 3 (Operand.tmp 23) (Operand.const (Value.int IntKind.i64 1)) 3, type := 3, pos := "l06_jar.go:86", after := #[{ on := 8, ground := Ground.data }, { on := 6, ground := Ground.guard }], guard := some (6, true) }) (v := ?vc9) rfl (by kernel_rfl) (by kernel_rfl) (by kernel_rfl) (fun _ _ _ h => h) (Or.inl ⟨by rfl, ?hyc9⟩) (by assumption) ?restc9
            case hyc9 =>
              intro w hSw
              (try dsimp only at hSw)
              go_simp
              try with_reducible rfl
            try simp only [Act.put, List.setIfInBounds_toArray, List.set_cons_zero, List.set_cons_succ]
            refine wpAnyH_take (i := 10) (oi := { dst := some 25, op := Op.indexAddr 43 (Operand.tmp 22) (Operand.tmp 24), type := 0, pos := "l06_jar.go:86", after := #[{ on := 7, ground := Ground.data }, { on := 9, ground := Ground.data }, { on := 6, ground := Ground.guard }], guard := some (6, true) }) (v := ?vc10) rfl (by kernel_rfl) (by kernel_rfl) (by kernel_rfl) (fun _ _ _ h => h) (Or.inl ⟨by rfl, ?hyc10⟩) (by assumption) ?restc10
            case hyc10 =>
              intro w hSw
              (try dsimp only at hSw)
              go_simp
              try with_reducible rfl
            try simp only [Act.put, List.setIfInBounds_toArray, List.set_cons_zero, List.set_cons_succ]
            refine wpAnyH_take (i := 11) (oi := { dst := some 26, op := Op.fieldAddr 90 (Operand.tmp 25) 9, type := 0, pos := "l06_jar.go:86", after := #[{ on := 10, ground := Ground.data }, { on := 6, ground := Ground.guard }], guard := some (6, true) }) (v := ?vc11) rfl (by kernel_rfl) (by kernel_rfl) (by kernel_rfl) (fun _ _ _ h => h) (Or.inl ⟨by rfl, ?hyc11⟩) (by assumption) ?restc11
            case hyc11 =>
              intro w hSw
              (try dsimp only at hSw)
              go_simp
              try with_reducible rfl
            try simp only [Act.put, List.setIfInBounds_toArray, List.set_cons_zero, List.set_cons_succ]
            refine wpAnyH_take (i := 12) (oi := { dst := some 27, op := Op.load 2 (Operand.tmp 26), type := 2, pos := "l06_jar.go:86", after := #[{ on := 11, ground := Ground.data }, { on := 6, ground := Ground.guard }], guard := some (6, true) }) (v := ?vc12) rfl (by kernel_rfl) (by kernel_rfl) (by kernel_rfl) (fun _ _ _ h => h) (Or.inl ⟨by rfl, ?hyc12⟩) (by assumption) ?restc12
            case hyc12 =>
              intro w hSw
              (try dsimp only at hSw)
              go_simp
              try with_reducible rfl
            try simp only [Act.put, List.setIfInBounds_toArray, List.set_cons_zero, List.set_cons_succ]
            refine wpAnyH_take (i := 13) (oi := { dst := some 28, op := Op.fieldAddr 90 (Operand.tmp 4) 9, type := 0, pos := "l06_jar.go:86", after := #[{ on := 6, ground := Ground.guard }], guard := some (6, true) }) (v := ?vc13) rfl (by kernel_rfl) (by kernel_rfl) (by kernel_rfl) (fun _ _ _ h => h) (Or.inl ⟨by rfl, ?hyc13⟩) (by assumption) ?restc13
            case hyc13 =>
              intro w hSw
              (try dsimp only at hSw)
              go_simp
              try with_reducible rfl
            try simp only [Act.put, List.setIfInBounds_toArray, List.set_cons_zero, List.set_cons_succ]
            refine wpAnyH_take (i := 14) (oi := { dst := some 29, op := Op.load 2 (Operand.tmp 28), type := 2, pos := "l06_jar.go:86", after := #[{ on := 13, ground := Ground.data }, { on := 6, ground := Ground.guard }], guard := some (6, true) }) (v := ?vc14) rfl (by kernel_rfl) (by kernel_rfl) (by kernel_rfl) (fun _ _ _ h => h) (Or.inl ⟨by rfl, ?hyc14⟩) (by assumption) ?restc14
            case hyc14 =>
              intro w hSw
              (try dsimp only at hSw)
              go_simp
              try with_reducible rfl
            try simp only [Act.put, List.setIfInBounds_toArray, List.set_cons_zero, List.set_cons_succ]
            refine wpAnyH_take (i := 15) (oi := { dst := some 30, op := Op.binOp BinOp.geq 2 (Operand.tmp 27) (Operand.tmp 29) 2, type := 4, pos := "l06_jar.go:86", after := #[{ on := 12, ground := Ground.data }, { on := 14, ground := Ground.data }, { on := 6, ground := Ground.guard }], guard := some (6, true) }) (v := ?vc15) rfl (by kernel_rfl) (by kernel_rfl) (by kernel_rfl) (fun _ _ _ h => h) (Or.inl ⟨by rfl, ?hyc15⟩) (by assumption) ?restc15
            case hyc15 =>
              intro w hSw
              (try dsimp only at hSw)
              go_simp
              try with_reducible rfl
            try simp only [Act.put, List.setIfInBounds_toArray, List.set_cons_zero, List.set_cons_succ]
            refine wpAnyH_take (i := 16) (oi := { dst := some 31, op := Op.pick (Operand.tmp 21) (Operand.tmp 30) (Operand.const (Value.bool false)), type := 4, pos := "l06_jar.go:86", after := #[{ on := 6, ground := Ground.data }, { on := 15, ground := Ground.data }, { on := 3, ground := Ground.guard }], guard := some (3, false) }) (v := ?vc16) rfl (by kernel_rfl) (by kernel_rfl) (by kernel_rfl) (fun _ _ _ h => h) (Or.inl ⟨by rfl, ?hyc16⟩) (by assumption) ?restc16
            case hyc16 =>
              intro w hSw
              (try dsimp only at hSw)
              go_simp
              try with_reducible rfl
            try simp only [Act.put, List.setIfInBounds_toArray, List.set_cons_zero, List.set_cons_succ]
            refine wpAnyH_take (i := 17) (oi := { dst := some 32, op := Op.pick (Operand.tmp 18) (Operand.const (Value.bool true)) (Operand.tmp 31), type := 4, pos := "l06_jar.go:86", after := #[{ on := 3, ground := Ground.data }, { on := 16, ground := Ground.data }], guard := none }) (v := ?vc17) rfl (by kernel_rfl) (by kernel_rfl) (by kernel_rfl) (fun _ _ _ h => h) (Or.inl ⟨by rfl, ?hyc17⟩) (by assumption) ?restc17
            case hyc17 =>
              intro w hSw
              (try dsimp only at hSw)
              go_simp
              try with_reducible rfl
            try simp only [Act.put, List.setIfInBounds_toArray, List.set_cons_zero, List.set_cons_succ]
            refine wpAnyH_done (by kernel_rfl) ?_ _
            have B2 : Hid (Below w.heap.size w w2) := (HBW.out.trans (Below.drew (Below.refl _ _))).trans (hb2.mono HBW.out.size)
            have hg2 : g < w2.heap.size := Nat.lt_of_lt_of_le hgW (Nat.le_trans (Below.drew (Below.refl W0.heap.size W0)).size hb2.size)
            have hb22 : b < w2.heap.size := Nat.lt_of_lt_of_le hbW (Nat.le_trans (Below.drew (Below.refl W0.heap.size W0)).size hb2.size)
            clear hb2
            have KF : Hid (∀ W, Below w2.heap.size w2 W → Calls Tryd.prog 124 #[.slice (some ⟨g, 0, none⟩) (m + 1) (m + 1), .func (.func 126) #[.agg #[.string ho, .bool al, .string pa, .string pt, .string na]] #[]] W fun e w' => e = .returned (.bool (hasK L (m + 1) ⟨na, va, ho, al, pa, se, mo, pt, un, ma⟩)) ∧ Below W.heap.size W w') := fun W hb => containsHas_any g (m + 1) L ⟨na, va, ho, al, pa, se, mo, pt, un, ma⟩ W (Nat.lt_of_lt_of_le hg2 hb.size) (by omega) hn (fun j hj o ho => by rw [(bcell (B2.out.trans (hb.mono B2.out.size))).1 _ _ hgw]; exact HC.out j (by omega) o ho)
            have KP : Hid (∀ W, Calls Tryd.prog 125 #[.agg #[.string na, .string va, .string ho, .bool al, .string pa, .bool se, .int .i64 mo, .string pt, .int .i64 un, .int .i64 ma]] W fun e w' => e = .returned (.agg #[.string ho, .bool al, .string pa, .string pt, .string na]) ∧ Below W.heap.size W w') := fun W => placeOf_any ⟨na, va, ho, al, pa, se, mo, pt, un, ma⟩ W
            have HS1 : Hid (hasK L (m + 1) ⟨na, va, ho, al, pa, se, mo, pt, un, ma⟩ = true → R = false) := HSN.out
            have HS2 : Hid (hasK L (m + 1) ⟨na, va, ho, al, pa, se, mo, pt, un, ma⟩ = false → okJ L (m + 1) = true) := HKY.out
            clear HSN HKY
            generalize hasK L (m + 1) ⟨na, va, ho, al, pa, se, mo, pt, un, ma⟩ = hs at *
            go_wp2_with fail
            go_region_held3 (fun w' => w'.cell? ⟨b, 0, none⟩ = some (.string na) ∧ w'.cell? ⟨b, 1, none⟩ = some (.string va) ∧ w'.cell? ⟨b, 2, none⟩ = some (.string ho) ∧ w'.cell? ⟨b, 3, none⟩ = some (.bool al) ∧ w'.cell? ⟨b, 4, none⟩ = some (.string pa) ∧ w'.cell? ⟨b, 5, none⟩ = some (.bool se) ∧ w'.cell? ⟨b, 6, none⟩ = some (.int .i64 mo) ∧ w'.cell? ⟨b, 7, none⟩ = some (.string pt) ∧ w'.cell? ⟨b, 8, none⟩ = some (.int .i64 un) ∧ w'.cell? ⟨b, 9, none⟩ = some (.int .i64 ma)) (go_keep)
              (first | (go_at_call 125; refine (KP.out _).mono ?_; rintro e w3 ⟨rfl, hb3⟩; have A3 : Below w2.heap.size w2 w3 := (Below.drew (Below.refl _ _)).trans hb3; have y0 : w3.cell? ⟨b, 0, none⟩ = some (.string na) := ((bcell A3).1 _ _ hb22).trans x0; have y1 : w3.cell? ⟨b, 1, none⟩ = some (.string va) := ((bcell A3).1 _ _ hb22).trans x1; have y2 : w3.cell? ⟨b, 2, none⟩ = some (.string ho) := ((bcell A3).1 _ _ hb22).trans x2; have y3 : w3.cell? ⟨b, 3, none⟩ = some (.bool al) := ((bcell A3).1 _ _ hb22).trans x3; have y4 : w3.cell? ⟨b, 4, none⟩ = some (.string pa) := ((bcell A3).1 _ _ hb22).trans x4; have y5 : w3.cell? ⟨b, 5, none⟩ = some (.bool se) := ((bcell A3).1 _ _ hb22).trans x5; have y6 : w3.cell? ⟨b, 6, none⟩ = some (.int .i64 mo) := ((bcell A3).1 _ _ hb22).trans x6; have y7 : w3.cell? ⟨b, 7, none⟩ = some (.string pt) := ((bcell A3).1 _ _ hb22).trans x7; have y8 : w3.cell? ⟨b, 8, none⟩ = some (.int .i64 un) := ((bcell A3).1 _ _ hb22).trans x8; have y9 : w3.cell? ⟨b, 9, none⟩ = some (.int .i64 ma) := ((bcell A3).1 _ _ hb22).trans x9) | (go_at_call 124; refine (KF.out _ (by first | exact A3 | exact A3.trans (Below.drew (Below.refl _ _)))).mono ?_; rintro e w4 ⟨rfl, hb4⟩; have A4 : Below w2.heap.size w2 w4 := A3.trans (hb4.mono A3.size); have z0 : w4.cell? ⟨b, 0, none⟩ = some (.string na) := ((bcell A4).1 _ _ hb22).trans x0; have z1 : w4.cell? ⟨b, 1, none⟩ = some (.string va) := ((bcell A4).1 _ _ hb22).trans x1; have z2 : w4.cell? ⟨b, 2, none⟩ = some (.string ho) := ((bcell A4).1 _ _ hb22).trans x2; have z3 : w4.cell? ⟨b, 3, none⟩ = some (.bool al) := ((bcell A4).1 _ _ hb22).trans x3; have z4 : w4.cell? ⟨b, 4, none⟩ = some (.string pa) := ((bcell A4).1 _ _ hb22).trans x4; have z5 : w4.cell? ⟨b, 5, none⟩ = some (.bool se) := ((bcell A4).1 _ _ hb22).trans x5; have z6 : w4.cell? ⟨b, 6, none⟩ = some (.int .i64 mo) := ((bcell A4).1 _ _ hb22).trans x6; have z7 : w4.cell? ⟨b, 7, none⟩ = some (.string pt) := ((bcell A4).1 _ _ hb22).trans x7; have z8 : w4.cell? ⟨b, 8, none⟩ = some (.int .i64 un) := ((bcell A4).1 _ _ hb22).trans x8; have z9 : w4.cell? ⟨b, 9, none⟩ = some (.int .i64 ma) := ((bcell A4).1 _ _ hb22).trans x9))
            have B4 : Hid (Below w.heap.size w w4) := B2.out.trans (A4.mono B2.out.size)
            clear A3 A4 hb3 hb4
            cases hs with
            | true =>
              have HQ : Hid (R = false) := HS1.out rfl
              go_wp2
              go_ret
              exact ⟨ret_bool HQ.out.symm, B4.out⟩
            | false =>
              have HK2 : Hid (okJ L (m + 1) = true) := HS2.out rfl
              go_wp2
              go_roundw
              case rel => exact ⟨m + 2, by omega, by go_num, B4, okJ_succ HR.out HK2.out⟩
              case measure => simp [intOf]; omega
          · have qg : decide (ma ≤ pm) = true := by rw [decide_eq_true_iff]; omega
            have HQ : Hid (R = false) := HMN.out hlm
            clear HKY2 HMN HSN
            go_wp2_with fail
            rw [← hW0.out]
            clear hW0
            generalize hbb : wr.heap.size = b at *
            clear hbb HBr HB d0 d1 d2 d3 d4 d5 d6 d7 d8 d9
            refine wp_region_held_drew (S := (fun w' => w'.cell? ⟨b, 0, none⟩ = some (.string na) ∧ w'.cell? ⟨b, 1, none⟩ = some (.string va) ∧ w'.cell? ⟨b, 2, none⟩ = some (.string ho) ∧ w'.cell? ⟨b, 3, none⟩ = some (.bool al) ∧ w'.cell? ⟨b, 4, none⟩ = some (.string pa) ∧ w'.cell? ⟨b, 5, none⟩ = some (.bool se) ∧ w'.cell? ⟨b, 6, none⟩ = some (.int .i64 mo) ∧ w'.cell? ⟨b, 7, none⟩ = some (.string pt) ∧ w'.cell? ⟨b, 8, none⟩ = some (.int .i64 un) ∧ w'.cell? ⟨b, 9, none⟩ = some (.int .i64 ma) ∧ w'.cell? ⟨g, m * 10 + 9, none⟩ = some (.int .i64 pm))) (by kernel_rfl) ?_ (fun hH0 => ?_)
            · (try dsimp only)
              go_keep
            refine wpAnyH_take (i := 0) (oi := { dst := some 15, op := Op.load 90 (Operand.tmp 4), type := 90, pos := "l06_jar.go:86", after := #[], guard := none }) (v := ?vd0) rfl (by kernel_rfl) (by kernel_rfl) (by kernel_rfl) (fun _ _ _ h => h) (Or.inl ⟨by rfl, ?hyd0⟩) (by assumption) ?restd0
            case hyd0 =>
              intro w hSw
              (try dsimp only at hSw)
              go_simp
              try with_reducible rfl
            try simp only [Act.put, List.setIfInBounds_toArray, List.set_cons_zero, List.set_cons_succ]
            refine wpAnyH_ready (rs := [1]) (by kernel_rfl) (by simp) ?_
            refine AllReadyH.cons (o := { dst := some 16, op := Op.call { callee := Callee.value (Operand.func 123), args := #[Operand.tmp 15], argTypes := #[90] }, type := 4, pos := "l06_jar.go:86", after := #[{ on := 0, ground := Ground.data }], guard := none }) rfl (fun K hK => ?_) AllReadyH.nil
            go_simp
            (go_at_call 123; refine (KC.out _ (Below.drew (Below.refl _ _))).mono ?_; rintro e w2 ⟨rfl, hb2⟩; have x0 : w2.cell? ⟨b, 0, none⟩ = some (.string na) := ((bcell hb2).1 _ _ hbW).trans c0; have x1 : w2.cell? ⟨b, 1, none⟩ = some (.string va) := ((bcell hb2).1 _ _ hbW).trans c1; have x2 : w2.cell? ⟨b, 2, none⟩ = some (.string ho) := ((bcell hb2).1 _ _ hbW).trans c2; have x3 : w2.cell? ⟨b, 3, none⟩ = some (.bool al) := ((bcell hb2).1 _ _ hbW).trans c3; have x4 : w2.cell? ⟨b, 4, none⟩ = some (.string pa) := ((bcell hb2).1 _ _ hbW).trans c4; have x5 : w2.cell? ⟨b, 5, none⟩ = some (.bool se) := ((bcell hb2).1 _ _ hbW).trans c5; have x6 : w2.cell? ⟨b, 6, none⟩ = some (.int .i64 mo) := ((bcell hb2).1 _ _ hbW).trans c6; have x7 : w2.cell? ⟨b, 7, none⟩ = some (.string pt) := ((bcell hb2).1 _ _ hbW).trans c7; have x8 : w2.cell? ⟨b, 8, none⟩ = some (.int .i64 un) := ((bcell hb2).1 _ _ hbW).trans c8; have x9 : w2.cell? ⟨b, 9, none⟩ = some (.int .i64 ma) := ((bcell hb2).1 _ _ hbW).trans c9; have xm : w2.cell? ⟨g, m * 10 + 9, none⟩ = some (.int .i64 pm) := ((bcell hb2).1 _ _ hgW).trans cm)
            try (go_wp2_with fail)
            refine hK.out _ _ ?_ (fun hH1 => ?_)
            · (try dsimp only)
              go_keep
            clear hK K hH0
            try simp only [Act.put, List.setIfInBounds_toArray, List.set_cons_zero, List.set_cons_succ]
            refine wpAnyH_take (i := 2) (oi := { dst := some 17, op := Op.unOp UnOp.not 4 (Operand.tmp 16), type := 4, pos := "l06_jar.go:86", after := #[{ on := 1, ground := Ground.data }], guard := none }) (v := ?vd2) rfl (by kernel_rfl) (by kernel_rfl) (by kernel_rfl) (fun _ _ _ h => h) (Or.inl ⟨by rfl, ?hyd2⟩) (by assumption) ?restd2
            case hyd2 =>
              intro w hSw
              (try dsimp only at hSw)
              go_simp
              try with_reducible rfl
            try simp only [Act.put, List.setIfInBounds_toArray, List.set_cons_zero, List.set_cons_succ]
            refine wpAnyH_take (i := 3) (oi := { dst := some 18, op := Op.move (Operand.tmp 17), type := 4, pos := "l06_jar.go:86", after := #[{ on := 2, ground := Ground.data }, { on := 1, ground := Ground.chain }], guard := none }) (v := ?vd3) rfl (by kernel_rfl) (by kernel_rfl) (by kernel_rfl) (fun _ _ _ h => h) (Or.inl ⟨by rfl, ?hyd3⟩) (by assumption) ?restd3
            case hyd3 =>
              intro w hSw
              (try dsimp only at hSw)
              go_simp
              try with_reducible rfl
            try simp only [Act.put, List.setIfInBounds_toArray, List.set_cons_zero, List.set_cons_succ]
            refine wpAnyH_take (i := 4) (oi := { dst := some 19, op := Op.move (Operand.tmp 3), type := 3, pos := "l06_jar.go:86", after := #[{ on := 3, ground := Ground.guard }], guard := some (3, false) }) (v := ?vd4) rfl (by kernel_rfl) (by kernel_rfl) (by kernel_rfl) (fun _ _ _ h => h) (Or.inl ⟨by rfl, ?hyd4⟩) (by assumption) ?restd4
            case hyd4 =>
              intro w hSw
              (try dsimp only at hSw)
              go_simp
              try with_reducible rfl
            try simp only [Act.put, List.setIfInBounds_toArray, List.set_cons_zero, List.set_cons_succ]
            refine wpAnyH_take (i := 5) (oi := { dst := some 20, op := Op.binOp BinOp.gtr 3 (Operand.tmp 19) (Operand.const (Value.int IntKind.i64 0)) 3, type := 4, pos := "l06_jar.go:86", after := #[{ on := 4, ground := Ground.data }, { on := 3, ground := Ground.guard }], guard := some (3, false) }) (v := ?vd5) rfl (by kernel_rfl) (by kernel_rfl) (by kernel_rfl) (fun _ _ _ h => h) (Or.inl ⟨by rfl, ?hyd5⟩) (by assumption) ?restd5
            case hyd5 =>
              intro w hSw
              (try dsimp only at hSw)
              go_simp
              try with_reducible rfl
            try simp only [Act.put, List.setIfInBounds_toArray, List.set_cons_zero, List.set_cons_succ]
            refine wpAnyH_take (i := 6) (oi := { dst := some 21, op := Op.move (Operand.tmp 20), type := 4, pos := "l06_jar.go:86", after := #[{ on := 5, ground := Ground.data }, { on := 3, ground := Ground.chain }, { on := 3, ground := Ground.guard }], guard := some (3, false) }) (v := ?vd6) rfl (by kernel_rfl) (by kernel_rfl) (by kernel_rfl) (fun _ _ _ h => h) (Or.inl ⟨by rfl, ?hyd6⟩) (by assumption) ?restd6
            case hyd6 =>
              intro w hSw
              (try dsimp only at hSw)
              go_simp
              try with_reducible rfl
            try simp only [Act.put, List.setIfInBounds_toArray, List.set_cons_zero, List.set_cons_succ]
            refine wpAnyH_take (i := 7) (oi := { dst := some 22, op := Op.move (Operand.tmp 0), type := 43, pos := "l06_jar.go:86", after := #[{ on := 6, ground := Ground.guard }], guard := some (6, true) }) (v := ?vd7) rfl (by kernel_rfl) (by kernel_rfl) (by kernel_rfl) (fun _ _ _ h => h) (Or.inl ⟨by rfl, ?hyd7⟩) (by assumption) ?restd7
            case hyd7 =>
              intro w hSw
              (try dsimp only at hSw)
              go_simp
              try with_reducible rfl
            try simp only [Act.put, List.setIfInBounds_toArray, List.set_cons_zero, List.set_cons_succ]
            refine wpAnyH_take (i := 8) (oi := { dst := some 23, op := Op.move (Operand.tmp 3), type := 3, pos := "l06_jar.go:86", after := #[{ on := 6, ground := Ground.guard }], guard := some (6, true) }) (v := ?vd8) rfl (by kernel_rfl) (by kernel_rfl) (by kernel_rfl) (fun _ _ _ h => h) (Or.inl ⟨by rfl, ?hyd8⟩) (by assumption) ?restd8
            case hyd8 =>
              intro w hSw
              (try dsimp only at hSw)
              go_simp
              try with_reducible rfl
            try simp only [Act.put, List.setIfInBounds_toArray, List.set_cons_zero, List.set_cons_succ]
            refine wpAnyH_take (i := 9) (oi := { dst := some 24, op := Op.binOp BinOp.sub 3 (Operand.tmp 23) (Operand.const (Value.int IntKind.i64 1)) 3, type := 3, pos := "l06_jar.go:86", after := #[{ on := 8, ground := Ground.data }, { on := 6, ground := Ground.guard }], guard := some (6, true) }) (v := ?vd9) rfl (by kernel_rfl) (by kernel_rfl) (by kernel_rfl) (fun _ _ _ h => h) (Or.inl ⟨by rfl, ?hyd9⟩) (by assumption) ?restd9
            case hyd9 =>
              intro w hSw
              (try dsimp only at hSw)
              go_simp
              try with_reducible rfl
            try simp only [Act.put, List.setIfInBounds_toArray, List.set_cons_zero, List.set_cons_succ]
            refine wpAnyH_take (i := 10) (oi := { dst := some 25, op := Op.indexAddr 43 (Operand.tmp 22) (Operand.tmp 24), type := 0, pos := "l06_jar.go:86", after := #[{ on := 7, ground := Ground.data }, { on := 9, ground := Ground.data }, { on := 6, ground := Ground.guard }], guard := some (6, true) }) (v := ?vd10) rfl (by kernel_rfl) (by kernel_rfl) (by kernel_rfl) (fun _ _ _ h => h) (Or.inl ⟨by rfl, ?hyd10⟩) (by assumption) ?restd10
            case hyd10 =>
              intro w hSw
              (try dsimp only at hSw)
              go_simp
              try with_reducible rfl
            try simp only [Act.put, List.setIfInBounds_toArray, List.set_cons_zero, List.set_cons_succ]
            refine wpAnyH_take (i := 11) (oi := { dst := some 26, op := Op.fieldAddr 90 (Operand.tmp 25) 9, type := 0, pos := "l06_jar.go:86", after := #[{ on := 10, ground := Ground.data }, { on := 6, ground := Ground.guard }], guard := some (6, true) }) (v := ?vd11) rfl (by kernel_rfl) (by kernel_rfl) (by kernel_rfl) (fun _ _ _ h => h) (Or.inl ⟨by rfl, ?hyd11⟩) (by assumption) ?restd11
            case hyd11 =>
              intro w hSw
              (try dsimp only at hSw)
              go_simp
              try with_reducible rfl
            try simp only [Act.put, List.setIfInBounds_toArray, List.set_cons_zero, List.set_cons_succ]
            refine wpAnyH_take (i := 12) (oi := { dst := some 27, op := Op.load 2 (Operand.tmp 26), type := 2, pos := "l06_jar.go:86", after := #[{ on := 11, ground := Ground.data }, { on := 6, ground := Ground.guard }], guard := some (6, true) }) (v := ?vd12) rfl (by kernel_rfl) (by kernel_rfl) (by kernel_rfl) (fun _ _ _ h => h) (Or.inl ⟨by rfl, ?hyd12⟩) (by assumption) ?restd12
            case hyd12 =>
              intro w hSw
              (try dsimp only at hSw)
              go_simp
              try with_reducible rfl
            try simp only [Act.put, List.setIfInBounds_toArray, List.set_cons_zero, List.set_cons_succ]
            refine wpAnyH_take (i := 13) (oi := { dst := some 28, op := Op.fieldAddr 90 (Operand.tmp 4) 9, type := 0, pos := "l06_jar.go:86", after := #[{ on := 6, ground := Ground.guard }], guard := some (6, true) }) (v := ?vd13) rfl (by kernel_rfl) (by kernel_rfl) (by kernel_rfl) (fun _ _ _ h => h) (Or.inl ⟨by rfl, ?hyd13⟩) (by assumption) ?restd13
            case hyd13 =>
              intro w hSw
              (try dsimp only at hSw)
              go_simp
              try with_reducible rfl
            try simp only [Act.put, List.setIfInBounds_toArray, List.set_cons_zero, List.set_cons_succ]
            refine wpAnyH_take (i := 14) (oi := { dst := some 29, op := Op.load 2 (Operand.tmp 28), type := 2, pos := "l06_jar.go:86", after := #[{ on := 13, ground := Ground.data }, { on := 6, ground := Ground.guard }], guard := some (6, true) }) (v := ?vd14) rfl (by kernel_rfl) (by kernel_rfl) (by kernel_rfl) (fun _ _ _ h => h) (Or.inl ⟨by rfl, ?hyd14⟩) (by assumption) ?restd14
            case hyd14 =>
              intro w hSw
              (try dsimp only at hSw)
              go_simp
              try with_reducible rfl
            try simp only [Act.put, List.setIfInBounds_toArray, List.set_cons_zero, List.set_cons_succ]
            refine wpAnyH_take (i := 15) (oi := { dst := some 30, op := Op.binOp BinOp.geq 2 (Operand.tmp 27) (Operand.tmp 29) 2, type := 4, pos := "l06_jar.go:86", after := #[{ on := 12, ground := Ground.data }, { on := 14, ground := Ground.data }, { on := 6, ground := Ground.guard }], guard := some (6, true) }) (v := ?vd15) rfl (by kernel_rfl) (by kernel_rfl) (by kernel_rfl) (fun _ _ _ h => h) (Or.inl ⟨by rfl, ?hyd15⟩) (by assumption) ?restd15
            case hyd15 =>
              intro w hSw
              (try dsimp only at hSw)
              go_simp
              try with_reducible rfl
            try simp only [Act.put, List.setIfInBounds_toArray, List.set_cons_zero, List.set_cons_succ]
            refine wpAnyH_take (i := 16) (oi := { dst := some 31, op := Op.pick (Operand.tmp 21) (Operand.tmp 30) (Operand.const (Value.bool false)), type := 4, pos := "l06_jar.go:86", after := #[{ on := 6, ground := Ground.data }, { on := 15, ground := Ground.data }, { on := 3, ground := Ground.guard }], guard := some (3, false) }) (v := ?vd16) rfl (by kernel_rfl) (by kernel_rfl) (by kernel_rfl) (fun _ _ _ h => h) (Or.inl ⟨by rfl, ?hyd16⟩) (by assumption) ?restd16
            case hyd16 =>
              intro w hSw
              (try dsimp only at hSw)
              go_simp
              try with_reducible rfl
            try simp only [Act.put, List.setIfInBounds_toArray, List.set_cons_zero, List.set_cons_succ]
            refine wpAnyH_take (i := 17) (oi := { dst := some 32, op := Op.pick (Operand.tmp 18) (Operand.const (Value.bool true)) (Operand.tmp 31), type := 4, pos := "l06_jar.go:86", after := #[{ on := 3, ground := Ground.data }, { on := 16, ground := Ground.data }], guard := none }) (v := ?vd17) rfl (by kernel_rfl) (by kernel_rfl) (by kernel_rfl) (fun _ _ _ h => h) (Or.inl ⟨by rfl, ?hyd17⟩) (by assumption) ?restd17
            case hyd17 =>
              intro w hSw
              (try dsimp only at hSw)
              go_simp
              try with_reducible rfl
            try simp only [Act.put, List.setIfInBounds_toArray, List.set_cons_zero, List.set_cons_succ]
            refine wpAnyH_done (by kernel_rfl) ?_ _
            go_wp2
            go_ret
            exact ⟨ret_bool HQ.out.symm, (HBW.out.trans (Below.drew (Below.refl _ _))).trans (hb2.mono HBW.out.size)⟩
    · have HQ : Hid (R = true) := HY.out (fun i hi => HR.out i (by omega))
      go_wp2
      go_ret
      exact ⟨ret_bool HQ.out.symm, HB.out⟩
end Go.Proofs.YtimmoclemcnhnaaDoor

/- The walk of the specification's l06Goes. Written by specgoes.py. -/
namespace Go.Proofs.YtimmoclemcnhnaaDoor
open Go.RowKit

/-- the specification's own order of the questions -/
def goS (c : Ck) (sc uh up part : ByteArray) (wide near : Bool) (now : Int) : Bool := mayB c sc uh && (fitH uh c.ho && fitP up c.pa) && liveB now c && reachB c part wide near
theorem goS_go {c : Ck} {sc uh up part : ByteArray} {wide near : Bool} {now : Int} (h1 : hostB uh = true) (h2 : hostB c.ho = true) (h3 : pathB up = true) (h4 : pathB c.pa = true) : goS c sc uh up part wide near now = goB c sc uh up part wide near now := by
  unfold goS goB forB hostF pathF
  rw [h1, h2, h3, h4]
  generalize mayB c sc uh = a
  generalize fitH uh c.ho = b
  generalize fitP up c.pa = d
  generalize reachB c part wide near = e
  generalize liveB now c = f
  cases a <;> cases b <;> cases d <;> cases e <;> cases f <;> rfl
set_option maxRecDepth 10000 in
set_option maxHeartbeats 8000000 in
theorem specGoes_any (c : Ck) (sc uh : ByteArray) (po : Int) (up part : ByteArray) (wide near : Bool) (now : Int) (w : World) (h1 : uh.size ≤ 1048576) (h2 : c.ho.size ≤ 1048576) (h3 : 0 < c.pa.size) (h4 : c.pa.size ≤ 1048576) :
    Calls Tryd.prog 122 #[ckV c, .agg #[.string sc, .string uh, .int .i64 po, .string up], .string part, .bool wide, .bool near, .int .i64 now] w fun e w' => e = .returned (.bool (goS c sc uh up part wide near now)) ∧ Below w.heap.size w w' := by
  have KH : Hid (∀ W, Calls Tryd.prog 171 #[.string uh, .string c.ho] W fun e w' => e = .returned (.bool (fitH uh c.ho)) ∧ w' = W) := fun W => specL06Host_any uh c.ho W h1 h2
  have KP : Hid (∀ W, Calls Tryd.prog 172 #[.string up, .string c.pa] W fun e w' => e = .returned (.bool (fitP up c.pa)) ∧ w' = W) := fun W => specL06Path_any up c.pa W h3 h4
  have HN : Hid (goS c sc uh up part wide near now = (mayB c sc uh && (fitH uh c.ho && fitP up c.pa) && liveB now c && reachB c part wide near)) := rfl
  have HM : mayB c sc uh = !((c.al && !(c.ho.toList == uh.toList)) || (c.se && !(sc.toList == [104, 116, 116, 112, 115]))) := rfl
  have HL : liveB now c = ((c.un == 0) || decide (now < c.un)) := rfl
  have HQ : reachB c part wide near = if c.pt.toList.isEmpty = true then near || (wide && (c.mo == 2)) else c.pt.toList == part.toList := rfl
  clear h1 h2 h3 h4
  generalize goS c sc uh up part wide near now = R at *
  generalize mayB c sc uh = mb at *
  generalize liveB now c = lv at *
  generalize reachB c part wide near = rq at *
  obtain ⟨na, va, ho, al, pa, se, mo, pt, un, ma⟩ := c
  unfold ckV
  dsimp only at KH KP HN HM HL HQ ⊢
  generalize fitH uh ho = bh at *
  generalize fitP up pa = bp at *
  obtain ⟨W0, hW⟩ : ∃ W0, W0 = (w.alloc (.cells #[.string na, .string va, .string ho, .bool al, .string pa, .bool se, .int .i64 mo, .string pt, .int .i64 un, .int .i64 ma] 90)).alloc (.cells #[.string sc, .string uh, .int .i64 po, .string up] 45) := ⟨_, rfl⟩
  have hW0 : Hid (W0 = (w.alloc (.cells #[.string na, .string va, .string ho, .bool al, .string pa, .bool se, .int .i64 mo, .string pt, .int .i64 un, .int .i64 ma] 90)).alloc (.cells #[.string sc, .string uh, .int .i64 po, .string up] 45)) := hW
  have B0 : Hid (Below w.heap.size w W0) := by
    show Below _ _ _
    rw [hW]; exact ((Below.refl _ _).alloc (Nat.le_refl _) _).alloc (by simp) _
  have c0 : W0.cell? ⟨w.heap.size, 0, none⟩ = some (.string na) := by rw [hW]; simp
  have c1 : W0.cell? ⟨w.heap.size, 1, none⟩ = some (.string va) := by rw [hW]; simp
  have c2 : W0.cell? ⟨w.heap.size, 2, none⟩ = some (.string ho) := by rw [hW]; simp
  have c3 : W0.cell? ⟨w.heap.size, 3, none⟩ = some (.bool al) := by rw [hW]; simp
  have c4 : W0.cell? ⟨w.heap.size, 4, none⟩ = some (.string pa) := by rw [hW]; simp
  have c5 : W0.cell? ⟨w.heap.size, 5, none⟩ = some (.bool se) := by rw [hW]; simp
  have c6 : W0.cell? ⟨w.heap.size, 6, none⟩ = some (.int .i64 mo) := by rw [hW]; simp
  have c7 : W0.cell? ⟨w.heap.size, 7, none⟩ = some (.string pt) := by rw [hW]; simp
  have c8 : W0.cell? ⟨w.heap.size, 8, none⟩ = some (.int .i64 un) := by rw [hW]; simp
  have c9 : W0.cell? ⟨w.heap.size, 9, none⟩ = some (.int .i64 ma) := by rw [hW]; simp
  have u0 : W0.cell? ⟨w.heap.size + 1, 0, none⟩ = some (.string sc) := by rw [hW]; exact (World.cell?_alloc_at _ _ _ _ (by simp)).trans rfl
  have u1 : W0.cell? ⟨w.heap.size + 1, 1, none⟩ = some (.string uh) := by rw [hW]; exact (World.cell?_alloc_at _ _ _ _ (by simp)).trans rfl
  have u2 : W0.cell? ⟨w.heap.size + 1, 2, none⟩ = some (.int .i64 po) := by rw [hW]; exact (World.cell?_alloc_at _ _ _ _ (by simp)).trans rfl
  have u3 : W0.cell? ⟨w.heap.size + 1, 3, none⟩ = some (.string up) := by rw [hW]; exact (World.cell?_alloc_at _ _ _ _ (by simp)).trans rfl
  clear hW
  go_enter Tryd.func122, Tryd.ntmps122
  go_upto_region 1 with fail
  rw [← hW0.out]
  clear hW0
  cases al with
  | true =>
    cases e1 : (ho.toList == uh.toList) with
    | false =>
      have e1n : (ho.toList != uh.toList) = true := by unfold bne; rw [e1]; rfl
      have hmb : mb = false := by rw [HM, e1]; rfl
      have HR : Hid (R = false) := by show _ = _; rw [HN.out, hmb]; rfl
      go_wp2
      go_ret
      exact ⟨ret_bool HR.out.symm, B0.out⟩
    | true =>
      have e1n : (ho.toList != uh.toList) = false := by unfold bne; rw [e1]; rfl
      go_wp2_with fail
      refine (KH.out _).mono ?_
      rintro e w1 ⟨rfl, rfl⟩
      cases bh with
      | false =>
        have HR : Hid (R = false) := by show _ = _; rw [HN.out, Bool.false_and, Bool.and_false]; rfl
        go_wp2
        go_ret
        exact ⟨ret_bool HR.out.symm, B0.out⟩
      | true =>
      go_wp2_with fail
      refine (KP.out _).mono ?_
      rintro e w1 ⟨rfl, rfl⟩
      cases bp with
      | false =>
        have HR : Hid (R = false) := by show _ = _; rw [HN.out, Bool.true_and, Bool.and_false]; rfl
        go_wp2
        go_ret
        exact ⟨ret_bool HR.out.symm, B0.out⟩
      | true =>
      cases se with
      | false =>
        have hmb : mb = true := by rw [HM, e1]; rfl
        by_cases hu : un = 0
        · have qu : (un == 0) = true := by rw [hu]; rfl
          have qun : (un != 0) = false := by rw [hu]; rfl
          have hlv : lv = true := by rw [HL, qu]; rfl
          clear hu
          have HRQ : Hid (R = rq) := by show _ = _; rw [HN.out, hmb, hlv]; rfl
          cases hp : pt.toList.isEmpty with
          | false =>
            have hpn : (pt.toList == []) = false := by rw [beq_eq_false_iff_ne]; intro e; rw [e] at hp; cases hp
            have hpb : (pt.toList != []) = true := by unfold bne; rw [hpn]; rfl
            have HR : Hid (R = (pt.toList == part.toList)) := by show _ = _; rw [HRQ.out, HQ, hp]; rfl
            clear HQ HRQ
            go_wp2
            go_ret
            exact ⟨ret_bool HR.out.symm, B0.out⟩
          | true =>
            have hpn : (pt.toList == []) = true := by rw [beq_iff_eq]; exact List.isEmpty_iff.1 hp
            have hpb : (pt.toList != []) = false := by unfold bne; rw [hpn]; rfl
            have HR : Hid (R = (near || (wide && (mo == 2)))) := by show _ = _; rw [HRQ.out, HQ, hp]; rfl
            clear HQ HRQ
            cases near with
            | true =>
              have HR1 : Hid (R = true) := by show _ = _; rw [HR.out]; rfl
              go_wp2
              go_ret
              exact ⟨ret_bool HR1.out.symm, B0.out⟩
            | false =>
              cases wide with
              | false =>
                have HR1 : Hid (R = false) := by show _ = _; rw [HR.out]; rfl
                go_wp2
                go_ret
                exact ⟨ret_bool HR1.out.symm, B0.out⟩
              | true =>
                have HR1 : Hid (R = (mo == 2)) := by show _ = _; rw [HR.out]; rfl
                go_wp2
                go_ret
                exact ⟨ret_bool HR1.out.symm, B0.out⟩
        · have qu : (un == 0) = false := by rw [beq_eq_false_iff_ne]; exact hu
          have qun : (un != 0) = true := by rw [bne_iff_ne]; exact hu
          by_cases hw : un ≤ now
          · have q3 : decide (un ≤ now) = true := by rw [decide_eq_true_iff]; exact hw
            have hlv : lv = false := by rw [HL, qu, decide_eq_false (show ¬ now < un by omega)]; rfl
            clear hu
            have HR : Hid (R = false) := by show _ = _; rw [HN.out, hlv, hmb]; rfl
            go_wp2
            go_ret
            exact ⟨ret_bool HR.out.symm, B0.out⟩
          · have q3 : decide (un ≤ now) = false := by rw [decide_eq_false_iff_not]; exact hw
            have hlv : lv = true := by rw [HL, qu, decide_eq_true (show now < un by omega)]; rfl
            clear hu hw
            have HRQ : Hid (R = rq) := by show _ = _; rw [HN.out, hmb, hlv]; rfl
            cases hp : pt.toList.isEmpty with
            | false =>
              have hpn : (pt.toList == []) = false := by rw [beq_eq_false_iff_ne]; intro e; rw [e] at hp; cases hp
              have hpb : (pt.toList != []) = true := by unfold bne; rw [hpn]; rfl
              have HR : Hid (R = (pt.toList == part.toList)) := by show _ = _; rw [HRQ.out, HQ, hp]; rfl
              clear HQ HRQ
              go_wp2
              go_ret
              exact ⟨ret_bool HR.out.symm, B0.out⟩
            | true =>
              have hpn : (pt.toList == []) = true := by rw [beq_iff_eq]; exact List.isEmpty_iff.1 hp
              have hpb : (pt.toList != []) = false := by unfold bne; rw [hpn]; rfl
              have HR : Hid (R = (near || (wide && (mo == 2)))) := by show _ = _; rw [HRQ.out, HQ, hp]; rfl
              clear HQ HRQ
              cases near with
              | true =>
                have HR1 : Hid (R = true) := by show _ = _; rw [HR.out]; rfl
                go_wp2
                go_ret
                exact ⟨ret_bool HR1.out.symm, B0.out⟩
              | false =>
                cases wide with
                | false =>
                  have HR1 : Hid (R = false) := by show _ = _; rw [HR.out]; rfl
                  go_wp2
                  go_ret
                  exact ⟨ret_bool HR1.out.symm, B0.out⟩
                | true =>
                  have HR1 : Hid (R = (mo == 2)) := by show _ = _; rw [HR.out]; rfl
                  go_wp2
                  go_ret
                  exact ⟨ret_bool HR1.out.symm, B0.out⟩
      | true =>
        cases e2 : (sc.toList == [104, 116, 116, 112, 115]) with
        | false =>
          have e2n : (sc.toList != [104, 116, 116, 112, 115]) = true := by unfold bne; rw [e2]; rfl
          have hmb : mb = false := by rw [HM, e1, e2]; rfl
          have HR : Hid (R = false) := by show _ = _; rw [HN.out, hmb]; rfl
          go_wp2
          go_ret
          exact ⟨ret_bool HR.out.symm, B0.out⟩
        | true =>
          have e2n : (sc.toList != [104, 116, 116, 112, 115]) = false := by unfold bne; rw [e2]; rfl
          have hmb : mb = true := by rw [HM, e1, e2]; rfl
          by_cases hu : un = 0
          · have qu : (un == 0) = true := by rw [hu]; rfl
            have qun : (un != 0) = false := by rw [hu]; rfl
            have hlv : lv = true := by rw [HL, qu]; rfl
            clear hu
            have HRQ : Hid (R = rq) := by show _ = _; rw [HN.out, hmb, hlv]; rfl
            cases hp : pt.toList.isEmpty with
            | false =>
              have hpn : (pt.toList == []) = false := by rw [beq_eq_false_iff_ne]; intro e; rw [e] at hp; cases hp
              have hpb : (pt.toList != []) = true := by unfold bne; rw [hpn]; rfl
              have HR : Hid (R = (pt.toList == part.toList)) := by show _ = _; rw [HRQ.out, HQ, hp]; rfl
              clear HQ HRQ
              go_wp2
              go_ret
              exact ⟨ret_bool HR.out.symm, B0.out⟩
            | true =>
              have hpn : (pt.toList == []) = true := by rw [beq_iff_eq]; exact List.isEmpty_iff.1 hp
              have hpb : (pt.toList != []) = false := by unfold bne; rw [hpn]; rfl
              have HR : Hid (R = (near || (wide && (mo == 2)))) := by show _ = _; rw [HRQ.out, HQ, hp]; rfl
              clear HQ HRQ
              cases near with
              | true =>
                have HR1 : Hid (R = true) := by show _ = _; rw [HR.out]; rfl
                go_wp2
                go_ret
                exact ⟨ret_bool HR1.out.symm, B0.out⟩
              | false =>
                cases wide with
                | false =>
                  have HR1 : Hid (R = false) := by show _ = _; rw [HR.out]; rfl
                  go_wp2
                  go_ret
                  exact ⟨ret_bool HR1.out.symm, B0.out⟩
                | true =>
                  have HR1 : Hid (R = (mo == 2)) := by show _ = _; rw [HR.out]; rfl
                  go_wp2
                  go_ret
                  exact ⟨ret_bool HR1.out.symm, B0.out⟩
          · have qu : (un == 0) = false := by rw [beq_eq_false_iff_ne]; exact hu
            have qun : (un != 0) = true := by rw [bne_iff_ne]; exact hu
            by_cases hw : un ≤ now
            · have q3 : decide (un ≤ now) = true := by rw [decide_eq_true_iff]; exact hw
              have hlv : lv = false := by rw [HL, qu, decide_eq_false (show ¬ now < un by omega)]; rfl
              clear hu
              have HR : Hid (R = false) := by show _ = _; rw [HN.out, hlv, hmb]; rfl
              go_wp2
              go_ret
              exact ⟨ret_bool HR.out.symm, B0.out⟩
            · have q3 : decide (un ≤ now) = false := by rw [decide_eq_false_iff_not]; exact hw
              have hlv : lv = true := by rw [HL, qu, decide_eq_true (show now < un by omega)]; rfl
              clear hu hw
              have HRQ : Hid (R = rq) := by show _ = _; rw [HN.out, hmb, hlv]; rfl
              cases hp : pt.toList.isEmpty with
              | false =>
                have hpn : (pt.toList == []) = false := by rw [beq_eq_false_iff_ne]; intro e; rw [e] at hp; cases hp
                have hpb : (pt.toList != []) = true := by unfold bne; rw [hpn]; rfl
                have HR : Hid (R = (pt.toList == part.toList)) := by show _ = _; rw [HRQ.out, HQ, hp]; rfl
                clear HQ HRQ
                go_wp2
                go_ret
                exact ⟨ret_bool HR.out.symm, B0.out⟩
              | true =>
                have hpn : (pt.toList == []) = true := by rw [beq_iff_eq]; exact List.isEmpty_iff.1 hp
                have hpb : (pt.toList != []) = false := by unfold bne; rw [hpn]; rfl
                have HR : Hid (R = (near || (wide && (mo == 2)))) := by show _ = _; rw [HRQ.out, HQ, hp]; rfl
                clear HQ HRQ
                cases near with
                | true =>
                  have HR1 : Hid (R = true) := by show _ = _; rw [HR.out]; rfl
                  go_wp2
                  go_ret
                  exact ⟨ret_bool HR1.out.symm, B0.out⟩
                | false =>
                  cases wide with
                  | false =>
                    have HR1 : Hid (R = false) := by show _ = _; rw [HR.out]; rfl
                    go_wp2
                    go_ret
                    exact ⟨ret_bool HR1.out.symm, B0.out⟩
                  | true =>
                    have HR1 : Hid (R = (mo == 2)) := by show _ = _; rw [HR.out]; rfl
                    go_wp2
                    go_ret
                    exact ⟨ret_bool HR1.out.symm, B0.out⟩
  | false =>
    go_wp2_with fail
    refine (KH.out _).mono ?_
    rintro e w1 ⟨rfl, rfl⟩
    cases bh with
    | false =>
      have HR : Hid (R = false) := by show _ = _; rw [HN.out, Bool.false_and, Bool.and_false]; rfl
      go_wp2
      go_ret
      exact ⟨ret_bool HR.out.symm, B0.out⟩
    | true =>
    go_wp2_with fail
    refine (KP.out _).mono ?_
    rintro e w1 ⟨rfl, rfl⟩
    cases bp with
    | false =>
      have HR : Hid (R = false) := by show _ = _; rw [HN.out, Bool.true_and, Bool.and_false]; rfl
      go_wp2
      go_ret
      exact ⟨ret_bool HR.out.symm, B0.out⟩
    | true =>
    cases se with
    | false =>
      have hmb : mb = true := by rw [HM]; rfl
      by_cases hu : un = 0
      · have qu : (un == 0) = true := by rw [hu]; rfl
        have qun : (un != 0) = false := by rw [hu]; rfl
        have hlv : lv = true := by rw [HL, qu]; rfl
        clear hu
        have HRQ : Hid (R = rq) := by show _ = _; rw [HN.out, hmb, hlv]; rfl
        cases hp : pt.toList.isEmpty with
        | false =>
          have hpn : (pt.toList == []) = false := by rw [beq_eq_false_iff_ne]; intro e; rw [e] at hp; cases hp
          have hpb : (pt.toList != []) = true := by unfold bne; rw [hpn]; rfl
          have HR : Hid (R = (pt.toList == part.toList)) := by show _ = _; rw [HRQ.out, HQ, hp]; rfl
          clear HQ HRQ
          go_wp2
          go_ret
          exact ⟨ret_bool HR.out.symm, B0.out⟩
        | true =>
          have hpn : (pt.toList == []) = true := by rw [beq_iff_eq]; exact List.isEmpty_iff.1 hp
          have hpb : (pt.toList != []) = false := by unfold bne; rw [hpn]; rfl
          have HR : Hid (R = (near || (wide && (mo == 2)))) := by show _ = _; rw [HRQ.out, HQ, hp]; rfl
          clear HQ HRQ
          cases near with
          | true =>
            have HR1 : Hid (R = true) := by show _ = _; rw [HR.out]; rfl
            go_wp2
            go_ret
            exact ⟨ret_bool HR1.out.symm, B0.out⟩
          | false =>
            cases wide with
            | false =>
              have HR1 : Hid (R = false) := by show _ = _; rw [HR.out]; rfl
              go_wp2
              go_ret
              exact ⟨ret_bool HR1.out.symm, B0.out⟩
            | true =>
              have HR1 : Hid (R = (mo == 2)) := by show _ = _; rw [HR.out]; rfl
              go_wp2
              go_ret
              exact ⟨ret_bool HR1.out.symm, B0.out⟩
      · have qu : (un == 0) = false := by rw [beq_eq_false_iff_ne]; exact hu
        have qun : (un != 0) = true := by rw [bne_iff_ne]; exact hu
        by_cases hw : un ≤ now
        · have q3 : decide (un ≤ now) = true := by rw [decide_eq_true_iff]; exact hw
          have hlv : lv = false := by rw [HL, qu, decide_eq_false (show ¬ now < un by omega)]; rfl
          clear hu
          have HR : Hid (R = false) := by show _ = _; rw [HN.out, hlv, hmb]; rfl
          go_wp2
          go_ret
          exact ⟨ret_bool HR.out.symm, B0.out⟩
        · have q3 : decide (un ≤ now) = false := by rw [decide_eq_false_iff_not]; exact hw
          have hlv : lv = true := by rw [HL, qu, decide_eq_true (show now < un by omega)]; rfl
          clear hu hw
          have HRQ : Hid (R = rq) := by show _ = _; rw [HN.out, hmb, hlv]; rfl
          cases hp : pt.toList.isEmpty with
          | false =>
            have hpn : (pt.toList == []) = false := by rw [beq_eq_false_iff_ne]; intro e; rw [e] at hp; cases hp
            have hpb : (pt.toList != []) = true := by unfold bne; rw [hpn]; rfl
            have HR : Hid (R = (pt.toList == part.toList)) := by show _ = _; rw [HRQ.out, HQ, hp]; rfl
            clear HQ HRQ
            go_wp2
            go_ret
            exact ⟨ret_bool HR.out.symm, B0.out⟩
          | true =>
            have hpn : (pt.toList == []) = true := by rw [beq_iff_eq]; exact List.isEmpty_iff.1 hp
            have hpb : (pt.toList != []) = false := by unfold bne; rw [hpn]; rfl
            have HR : Hid (R = (near || (wide && (mo == 2)))) := by show _ = _; rw [HRQ.out, HQ, hp]; rfl
            clear HQ HRQ
            cases near with
            | true =>
              have HR1 : Hid (R = true) := by show _ = _; rw [HR.out]; rfl
              go_wp2
              go_ret
              exact ⟨ret_bool HR1.out.symm, B0.out⟩
            | false =>
              cases wide with
              | false =>
                have HR1 : Hid (R = false) := by show _ = _; rw [HR.out]; rfl
                go_wp2
                go_ret
                exact ⟨ret_bool HR1.out.symm, B0.out⟩
              | true =>
                have HR1 : Hid (R = (mo == 2)) := by show _ = _; rw [HR.out]; rfl
                go_wp2
                go_ret
                exact ⟨ret_bool HR1.out.symm, B0.out⟩
    | true =>
      cases e2 : (sc.toList == [104, 116, 116, 112, 115]) with
      | false =>
        have e2n : (sc.toList != [104, 116, 116, 112, 115]) = true := by unfold bne; rw [e2]; rfl
        have hmb : mb = false := by rw [HM, e2]; rfl
        have HR : Hid (R = false) := by show _ = _; rw [HN.out, hmb]; rfl
        go_wp2
        go_ret
        exact ⟨ret_bool HR.out.symm, B0.out⟩
      | true =>
        have e2n : (sc.toList != [104, 116, 116, 112, 115]) = false := by unfold bne; rw [e2]; rfl
        have hmb : mb = true := by rw [HM, e2]; rfl
        by_cases hu : un = 0
        · have qu : (un == 0) = true := by rw [hu]; rfl
          have qun : (un != 0) = false := by rw [hu]; rfl
          have hlv : lv = true := by rw [HL, qu]; rfl
          clear hu
          have HRQ : Hid (R = rq) := by show _ = _; rw [HN.out, hmb, hlv]; rfl
          cases hp : pt.toList.isEmpty with
          | false =>
            have hpn : (pt.toList == []) = false := by rw [beq_eq_false_iff_ne]; intro e; rw [e] at hp; cases hp
            have hpb : (pt.toList != []) = true := by unfold bne; rw [hpn]; rfl
            have HR : Hid (R = (pt.toList == part.toList)) := by show _ = _; rw [HRQ.out, HQ, hp]; rfl
            clear HQ HRQ
            go_wp2
            go_ret
            exact ⟨ret_bool HR.out.symm, B0.out⟩
          | true =>
            have hpn : (pt.toList == []) = true := by rw [beq_iff_eq]; exact List.isEmpty_iff.1 hp
            have hpb : (pt.toList != []) = false := by unfold bne; rw [hpn]; rfl
            have HR : Hid (R = (near || (wide && (mo == 2)))) := by show _ = _; rw [HRQ.out, HQ, hp]; rfl
            clear HQ HRQ
            cases near with
            | true =>
              have HR1 : Hid (R = true) := by show _ = _; rw [HR.out]; rfl
              go_wp2
              go_ret
              exact ⟨ret_bool HR1.out.symm, B0.out⟩
            | false =>
              cases wide with
              | false =>
                have HR1 : Hid (R = false) := by show _ = _; rw [HR.out]; rfl
                go_wp2
                go_ret
                exact ⟨ret_bool HR1.out.symm, B0.out⟩
              | true =>
                have HR1 : Hid (R = (mo == 2)) := by show _ = _; rw [HR.out]; rfl
                go_wp2
                go_ret
                exact ⟨ret_bool HR1.out.symm, B0.out⟩
        · have qu : (un == 0) = false := by rw [beq_eq_false_iff_ne]; exact hu
          have qun : (un != 0) = true := by rw [bne_iff_ne]; exact hu
          by_cases hw : un ≤ now
          · have q3 : decide (un ≤ now) = true := by rw [decide_eq_true_iff]; exact hw
            have hlv : lv = false := by rw [HL, qu, decide_eq_false (show ¬ now < un by omega)]; rfl
            clear hu
            have HR : Hid (R = false) := by show _ = _; rw [HN.out, hlv, hmb]; rfl
            go_wp2
            go_ret
            exact ⟨ret_bool HR.out.symm, B0.out⟩
          · have q3 : decide (un ≤ now) = false := by rw [decide_eq_false_iff_not]; exact hw
            have hlv : lv = true := by rw [HL, qu, decide_eq_true (show now < un by omega)]; rfl
            clear hu hw
            have HRQ : Hid (R = rq) := by show _ = _; rw [HN.out, hmb, hlv]; rfl
            cases hp : pt.toList.isEmpty with
            | false =>
              have hpn : (pt.toList == []) = false := by rw [beq_eq_false_iff_ne]; intro e; rw [e] at hp; cases hp
              have hpb : (pt.toList != []) = true := by unfold bne; rw [hpn]; rfl
              have HR : Hid (R = (pt.toList == part.toList)) := by show _ = _; rw [HRQ.out, HQ, hp]; rfl
              clear HQ HRQ
              go_wp2
              go_ret
              exact ⟨ret_bool HR.out.symm, B0.out⟩
            | true =>
              have hpn : (pt.toList == []) = true := by rw [beq_iff_eq]; exact List.isEmpty_iff.1 hp
              have hpb : (pt.toList != []) = false := by unfold bne; rw [hpn]; rfl
              have HR : Hid (R = (near || (wide && (mo == 2)))) := by show _ = _; rw [HRQ.out, HQ, hp]; rfl
              clear HQ HRQ
              cases near with
              | true =>
                have HR1 : Hid (R = true) := by show _ = _; rw [HR.out]; rfl
                go_wp2
                go_ret
                exact ⟨ret_bool HR1.out.symm, B0.out⟩
              | false =>
                cases wide with
                | false =>
                  have HR1 : Hid (R = false) := by show _ = _; rw [HR.out]; rfl
                  go_wp2
                  go_ret
                  exact ⟨ret_bool HR1.out.symm, B0.out⟩
                | true =>
                  have HR1 : Hid (R = (mo == 2)) := by show _ = _; rw [HR.out]; rfl
                  go_wp2
                  go_ret
                  exact ⟨ret_bool HR1.out.symm, B0.out⟩
end Go.Proofs.YtimmoclemcnhnaaDoor

/- Plain facts of texts: finding, digits, the bytes of a host. -/
namespace Go.Proofs.YtimmoclemcnhnaaDoor

theorem isAt_head {t x : ByteArray} {i : Nat} (hx : 0 < x.size) (hi : i + x.size ≤ t.size) (h : isAt t x i = true) : t[i] = x[0] := by
  unfold isAt at h
  rw [beq_iff_eq] at h
  have e : t.extract i (i + x.size) = x := by
    apply ByteArray.ext
    rw [ByteArray.toList_eq, ByteArray.toList_eq] at h
    exact Array.toList_inj.mp h
  have e0 : (t.extract i (i + x.size))[0]'(by rw [e]; exact hx) = x[0] := by simp only [e]
  rw [ByteArray.getElem_extract] at e0
  simpa using e0
theorem findTo_no {t x : ByteArray} (hx : 0 < x.size) (k : Nat) (hno : ∀ i (h : i < t.size), i < k → t[i] ≠ x[0]) : findTo t x k = none := by
  induction k with
  | zero => rfl
  | succ k ih =>
    refine findTo_miss (ih (fun i h hi => hno i h (by omega))) ?_
    rintro ⟨h1, h2⟩
    exact hno k (by omega) (by omega) (isAt_head hx h1 h2)
theorem findN_first {t x : ByteArray} (k : Nat) (hx : 0 < x.size) (hk : k + x.size ≤ t.size) (hat : isAt t x k = true) (hno : ∀ i (h : i < t.size), i < k → t[i] ≠ x[0]) : findN t x = some k := by
  have h := findTo_keep (findTo_hit (findTo_no hx k hno) hk hat) (t.size - k)
  unfold findN
  rw [show t.size + 1 = k + 1 + (t.size - k) by omega, h]
theorem findN_nowhere {t x : ByteArray} (hx : 0 < x.size) (hno : ∀ i (h : i < t.size), t[i] ≠ x[0]) : findN t x = none :=
  findTo_no hx _ (fun i h _ => hno i h)
theorem isAt_mid (a x b : ByteArray) : isAt (a ++ x ++ b) x a.size = true := by
  unfold isAt
  rw [beq_iff_eq]
  congr 1
  have h := ByteArray.extract_append_size_add (a := a) (b := x ++ b) (i := 0) (j := x.size)
  rw [Nat.add_zero] at h
  rw [ByteArray.append_assoc, h]
  exact ByteArray.extract_append_eq_left rfl
theorem findN_mid (a x b : ByteArray) (hx : 0 < x.size) (hno : ∀ i (h : i < a.size), a[i] ≠ x[0]) : findN (a ++ x ++ b) x = some a.size := by
  refine findN_first a.size hx (by rw [ByteArray.size_append, ByteArray.size_append]; omega) (isAt_mid a x b) ?_
  intro i h hi
  rw [ByteArray.getElem_append_left (by rw [ByteArray.size_append]; omega), ByteArray.getElem_append_left hi]
  exact hno i hi

theorem tail_of (a b : ByteArray) (n : Nat) (h : n = a.size) : (a ++ b).extract n (a ++ b).size = b := ByteArray.extract_append_eq_right h ByteArray.size_append
theorem head_of (a b : ByteArray) (n : Nat) (h : n = a.size) : (a ++ b).extract 0 n = a := ByteArray.extract_append_eq_left h

/-- the number that digits tell -/
def numL (l : List UInt8) : Nat := l.foldl (fun n c => 10 * n + (c.toNat - 48)) 0
theorem numL_snoc (l : List UInt8) (d : UInt8) : numL (l ++ [d]) = 10 * numL l + (d.toNat - 48) := by
  unfold numL; rw [List.foldl_append]; rfl
theorem numTo_take (t : ByteArray) (i : Nat) (h : i ≤ t.size) : numTo t i = numL (t.data.toList.take i) := by
  induction i with
  | zero => rfl
  | succ i ih =>
    have hl : i < t.data.toList.length := by simp; omega
    rw [numTo_succ (by omega), ih (by omega), List.take_succ_eq_append_getElem hl, numL_snoc]
    rfl
theorem digit_nat (m : Nat) : (UInt8.ofNat (48 + m % 10)).toNat = 48 + m % 10 := by
  rw [UInt8.toNat_ofNat']
  have : m % 10 < 10 := Nat.mod_lt _ (by decide)
  omega
theorem decA_num (m : Nat) : numL (decA m) = m := by
  induction m using Nat.strongRecOn with
  | _ m ih =>
    by_cases h : m = 0
    · subst h; rfl
    · rw [decA_pos (by omega), numL_snoc, ih (m / 10) (by omega), digit_nat]; omega
theorem decA_dig (m : Nat) : ∀ c ∈ decA m, 48 ≤ c.toNat ∧ c.toNat ≤ 57 := by
  induction m using Nat.strongRecOn with
  | _ m ih =>
    by_cases h : m = 0
    · subst h; intro c hc; cases hc
    · rw [decA_pos (by omega)]
      intro c hc
      rw [List.mem_append] at hc
      rcases hc with hc | hc
      · exact ih (m / 10) (by omega) c hc
      · rw [List.mem_singleton] at hc
        subst hc
        rw [digit_nat]; omega
theorem decA_lead (m : Nat) (h : 0 < m) : ∃ c l, decA m = c :: l ∧ ¬ c.toNat = 48 := by
  induction m using Nat.strongRecOn with
  | _ m ih =>
    by_cases h10 : m < 10
    · rw [decA_pos h, show m / 10 = 0 by omega, decA_zero]
      exact ⟨_, _, rfl, by rw [digit_nat]; omega⟩
    · obtain ⟨c, l, hc, hn⟩ := ih (m / 10) (by omega) (by omega)
      rw [decA_pos h, hc]
      exact ⟨c, _, rfl, hn⟩
theorem decB_back (n : Int) (h1 : 1 ≤ n) (h2 : n ≤ 65535) : numI (decB n) = n := by
  have hd : decB n = ⟨(decA n.natAbs).toArray⟩ := by rw [decB, if_neg (by omega), if_neg (by omega)]
  have hz : (decB n).size = (decA n.natAbs).length := by rw [hd]; rfl
  have hl := decA_len 5 n.natAbs (by omega)
  obtain ⟨c, l, hc, hn⟩ := decA_lead n.natAbs (by omega)
  have hp : 0 < (decA n.natAbs).length := by rw [hc]; simp
  rw [numI_yes (by omega) (by omega)]
  · rw [numTo_take _ _ (Nat.le_refl _), hd]
    show ((numL ((decA n.natAbs).take (decA n.natAbs).length) : Nat) : Int) = n
    rw [List.take_length, decA_num]; omega
  · intro _ h0
    have e : (decB n)[0] = c := by
      simp only [hd]
      show (decA n.natAbs)[0] = c
      simp only [hc]; rfl
    rw [e]; exact hn
  · intro i h
    have e : (decB n)[i] = (decA n.natAbs)[i]'(by omega) := by
      simp only [hd]; rfl
    rw [e]
    exact digC_yes (decA_dig n.natAbs _ (List.getElem_mem _))
theorem decB_dig (n : Int) (h1 : 1 ≤ n) : ∀ i (h : i < (decB n).size), 48 ≤ (decB n)[i].toNat ∧ (decB n)[i].toNat ≤ 57 := by
  have hd : decB n = ⟨(decA n.natAbs).toArray⟩ := by rw [decB, if_neg (by omega), if_neg (by omega)]
  intro i h
  have hz : (decB n).size = (decA n.natAbs).length := by rw [hd]; rfl
  have e : (decB n)[i] = (decA n.natAbs)[i]'(by omega) := by
    simp only [hd]; rfl
  rw [e]
  exact decA_dig n.natAbs _ (List.getElem_mem _)

/-- each byte of a text is the one that it is cut at, or one of a piece's -/
theorem splitTo_bytes (s : ByteArray) (c k : Nat) : ∀ i (h : i < s.size), i < k → s[i].toNat = c ∨ (∃ x ∈ (splitTo s c k).1, ∃ j, ∃ hj : j < x.size, x[j] = s[i]) ∨ (splitTo s c k).2 ≤ i := by
  induction k with
  | zero => intro i _ h; omega
  | succ k ih =>
    intro i h hi
    by_cases hk : k < s.size
    · by_cases hc : s[k].toNat = c
      · rw [splitTo_hit hk hc]
        by_cases e : i = k
        · subst e; exact .inl hc
        · rcases ih i h (by omega) with h1 | ⟨x, hx, hj⟩ | h1
          · exact .inl h1
          · exact .inr (.inl ⟨x, List.mem_append_left _ hx, hj⟩)
          · refine .inr (.inl ⟨_, List.mem_append_right _ (List.mem_singleton.mpr rfl), i - (splitTo s c k).2, ?_, ?_⟩)
            · rw [ByteArray.size_extract]; omega
            · rw [ByteArray.getElem_extract]
              congr 1; omega
      · rw [splitTo_miss hk hc]
        by_cases e : i = k
        · subst e; exact .inr (.inr (splitTo_le s c i).1)
        · exact ih i h (by omega)
    · have e : splitTo s c (k + 1) = splitTo s c k := by rw [splitTo, dif_neg hk]
      rw [e]
      exact ih i h (by omega)
theorem splitB_bytes (s : ByteArray) (c : Nat) : ∀ i (h : i < s.size), s[i].toNat = c ∨ ∃ x ∈ splitB s c, ∃ j, ∃ hj : j < x.size, x[j] = s[i] := by
  intro i h
  rcases splitTo_bytes s c s.size i h h with h1 | ⟨x, hx, hj⟩ | h1
  · exact .inl h1
  · exact .inr ⟨x, List.mem_append_left _ hx, hj⟩
  · refine .inr ⟨_, List.mem_append_right _ (List.mem_singleton.mpr rfl), i - (splitTo s c s.size).2, ?_, ?_⟩
    · rw [ByteArray.size_extract]; omega
    · rw [ByteArray.getElem_extract]
      congr 1; omega
theorem hostB_bytes {s : ByteArray} (h : hostB s = true) : ∀ i (h : i < s.size), ((97 ≤ s[i].toNat ∧ s[i].toNat ≤ 122) ∨ (48 ≤ s[i].toNat ∧ s[i].toNat ≤ 57) ∨ s[i].toNat = 45) ∨ s[i].toNat = 46 := by
  intro i hi
  unfold hostB at h
  simp only [Bool.and_eq_true] at h
  rcases splitB_bytes s 46 i hi with h1 | ⟨x, hx, j, hj, e⟩
  · exact .inr h1
  · refine .inl ?_
    have hl := List.all_eq_true.mp h.1.2 x hx
    unfold labelB at hl
    rw [decide_eq_true_iff] at hl
    have := hl.2.2.2.2 j hj
    rw [e] at this
    unfold labC at this
    rwa [decide_eq_true_iff] at this
theorem ne_of_nat {a b : UInt8} (h : a.toNat ≠ b.toNat) : a ≠ b := fun e => h (by rw [e])
end Go.Proofs.YtimmoclemcnhnaaDoor

/- Texts with '; ' between, cut apart again: plain facts, no walk. -/
namespace Go.Proofs.YtimmoclemcnhnaaDoor

theorem findI_mid (a x b : ByteArray) (hx : 0 < x.size) (hno : ∀ i (h : i < a.size), a[i] ≠ x[0]) : findI (a ++ x ++ b) x = a.size := by
  unfold findI; rw [findN_mid a x b hx hno]
theorem findI_nowhere {t x : ByteArray} (hx : 0 < x.size) (hno : ∀ i (h : i < t.size), t[i] ≠ x[0]) : findI t x = -1 := by
  unfold findI; rw [findN_nowhere hx hno]
/-- a text without a byte -/
def Lacks (t : ByteArray) (c : UInt8) : Prop := ∀ i (h : i < t.size), t[i] ≠ c
theorem Lacks.app {a b : ByteArray} {c : UInt8} (h1 : Lacks a c) (h2 : Lacks b c) : Lacks (a ++ b) c := by
  intro i h
  by_cases hi : i < a.size
  · rw [ByteArray.getElem_append_left hi]; exact h1 i hi
  · rw [ByteArray.getElem_append_right (by omega)]; exact h2 _ _
theorem pieces_one {a : ByteArray} (h : Lacks a 59) : piecesL a = [a] := by
  rw [piecesL, dif_neg]
  rw [findI_nowhere (t := a) (x := semi) (by decide) h]; decide
theorem pieces_cons {a : ByteArray} (b : ByteArray) (h : Lacks a 59) : piecesL (a ++ semi ++ b) = a :: piecesL b := by
  have e := findI_mid a semi b (by decide) h
  have s2 : (a ++ semi).size = a.size + 2 := by rw [ByteArray.size_append]; rfl
  rw [piecesL, dif_pos (by rw [e]; omega), e]
  have e0 : ((a.size : Int)).toNat = a.size := by omega
  rw [e0, tail_of (a ++ semi) b _ s2.symm, ByteArray.append_assoc, head_of a _ _ rfl]
theorem pair_mid {a : ByteArray} (b : ByteArray) (h : Lacks a 61) : pairP (a ++ equ ++ b) = (a, b) := by
  have e := findI_mid a equ b (by decide) h
  have s2 : (a ++ equ).size = a.size + 1 := by rw [ByteArray.size_append]; rfl
  rw [pairP_yes e, tail_of (a ++ equ) b _ s2.symm, ByteArray.append_assoc, head_of a _ _ rfl]
theorem pair_nowhere {a : ByteArray} (h : Lacks a 61) : pairP a = (a, ⟨#[]⟩) := by
  refine pairP_no ?_
  rw [findI_nowhere (t := a) (x := equ) (by decide) h]; decide

/-- pieces, each with '; ' ahead -/
def flat : List ByteArray → ByteArray
  | [] => ⟨#[]⟩
  | p :: r => semi ++ p ++ flat r
theorem app_nil (x : ByteArray) : x ++ (⟨#[]⟩ : ByteArray) = x := by apply ByteArray.ext; simp
theorem nil_app (x : ByteArray) : (⟨#[]⟩ : ByteArray) ++ x = x := by apply ByteArray.ext; simp
theorem flat_app (r s : List ByteArray) : flat (r ++ s) = flat r ++ flat s := by
  induction r with
  | nil => exact (nil_app _).symm
  | cons p r ih => show semi ++ p ++ flat (r ++ s) = semi ++ p ++ flat r ++ flat s; rw [ih, ByteArray.append_assoc (a := semi ++ p)]
theorem pieces_flat (p : ByteArray) (r : List ByteArray) (hp : Lacks p 59) (h : ∀ q ∈ r, Lacks q 59) : piecesL (p ++ flat r) = p :: r := by
  induction r generalizing p with
  | nil => rw [flat, app_nil]; exact pieces_one hp
  | cons q r ih =>
    have e : p ++ flat (q :: r) = p ++ semi ++ (q ++ flat r) := by
      show p ++ (semi ++ q ++ flat r) = _
      simp only [ByteArray.append_assoc]
    rw [e, pieces_cons _ hp, ih q (h q (by simp)) (fun x hx => h x (by simp [hx]))]
theorem flat_one (p : ByteArray) : flat [p] = semi ++ p := by show semi ++ p ++ ⟨#[]⟩ = _; rw [app_nil]
end Go.Proofs.YtimmoclemcnhnaaDoor

/- Pairs, their text, what is read of a text, as plain functions. -/
namespace Go.Proofs.YtimmoclemcnhnaaDoor
open Go.RowKit

/-- a pair's two cells -/
def pairC (f : Nat → ByteArray × ByteArray) (j o : Nat) : Value := if o = 0 then .string (f j).1 else .string (f j).2
/-- the cells of pairs -/
def pairCells : List (ByteArray × ByteArray) → List Value
  | [] => []
  | p :: L => .string p.1 :: .string p.2 :: pairCells L
def atP (L : List (ByteArray × ByteArray)) (j : Nat) : ByteArray × ByteArray := L.getD j (⟨#[]⟩, ⟨#[]⟩)
theorem pairCells_snoc (L : List (ByteArray × ByteArray)) (p : ByteArray × ByteArray) : pairCells L ++ [.string p.1, .string p.2] = pairCells (L ++ [p]) := by
  induction L with
  | nil => rfl
  | cons q L ih => simp only [pairCells, List.cons_append, ih]
theorem pairCells_len (L : List (ByteArray × ByteArray)) : (pairCells L).length = L.length * 2 := by
  induction L with
  | nil => rfl
  | cons q L ih => simp only [pairCells, List.length_cons, ih]; omega
theorem pairCells_at : ∀ (L : List (ByteArray × ByteArray)) (j : Nat), j < L.length → ∀ o, o < 2 → (pairCells L)[j * 2 + o]? = some (pairC (atP L) j o)
  | [], j, h, _, _ => by simp at h
  | p :: L, 0, _, o, ho => by
    rcases (show o = 0 ∨ o = 1 by omega) with rfl | rfl <;> simp [pairCells, pairC, atP]
  | p :: L, j + 1, h, o, ho => by
    have ih := pairCells_at L j (by simpa using h) o ho
    have e : (j + 1) * 2 + o = (j * 2 + o) + 1 + 1 := by omega
    rw [e, pairCells, List.getElem?_cons_succ, List.getElem?_cons_succ, ih]
    simp [pairC, atP]
/-- pairs as a slice -/
def SliceP (w : World) (B : Nat) (v : Value) (L : List (ByteArray × ByteArray)) : Prop := SliceR w B 2 v L.length (pairC (atP L))
theorem sliceP_of_own {w : World} {B : Nat} {t : TypeId} {v : Value} {L : List (ByteArray × ByteArray)} (h : w.ownsRow B t 2 v L.length (pairCells L)) : SliceP w B v L := sliceR_of_own h (pairCells_at L)

def pairT (p : ByteArray × ByteArray) : ByteArray := p.1 ++ equ ++ p.2
/-- pairs' texts with '; ' between -/
def joinP : List (ByteArray × ByteArray) → ByteArray
  | [] => ⟨#[]⟩
  | p :: L => pairT p ++ flat (L.map pairT)
def pairsB (L : List (ByteArray × ByteArray)) : Bool := decide (L.length ≤ 20) && L.all (fun p => pairB p.1 p.2)
/-- what PairsText tells -/
def pairsT (L : List (ByteArray × ByteArray)) : ByteArray := if pairsB L = true then joinP L else ⟨#[]⟩
/-- what PairsRead tells -/
def pairsGot (t : ByteArray) : List (ByteArray × ByteArray) × Int :=
  if 8000 < t.size then ([], 2) else if t.toList.isEmpty = true then ([], 0) else if ((pairsT ((piecesL t).map pairP)).toList == t.toList) = true then ((piecesL t).map pairP, 0) else ([], 3)
theorem joinP_snoc (L : List (ByteArray × ByteArray)) (p : ByteArray × ByteArray) (h : L ≠ []) : joinP (L ++ [p]) = joinP L ++ semi ++ pairT p := by
  cases L with
  | nil => exact absurd rfl h
  | cons q L =>
    show pairT q ++ flat ((L ++ [p]).map pairT) = pairT q ++ flat (L.map pairT) ++ semi ++ pairT p
    rw [List.map_append, flat_app, List.map_singleton, flat_one]
    simp only [ByteArray.append_assoc]
theorem pairsB_many {L : List (ByteArray × ByteArray)} (h : 20 < L.length) : pairsB L = false := by
  unfold pairsB; rw [decide_eq_false (by omega)]; rfl
theorem atP_eq {L : List (ByteArray × ByteArray)} {k : Nat} (h : k < L.length) : atP L k = L[k] := by simp [atP, h]
theorem pairsB_at {L : List (ByteArray × ByteArray)} (k : Nat) (h : k < L.length) (hk : pairB (atP L k).1 (atP L k).2 = false) : pairsB L = false := by
  have : L.all (fun p => pairB p.1 p.2) = false := by
    rw [List.all_eq_false]
    exact ⟨L[k], List.getElem_mem h, by rw [← atP_eq h, hk]; decide⟩
  unfold pairsB; rw [this, Bool.and_false]
theorem pairsB_all {L : List (ByteArray × ByteArray)} (h20 : L.length ≤ 20) (h : ∀ k, k < L.length → pairB (atP L k).1 (atP L k).2 = true) : pairsB L = true := by
  have : L.all (fun p => pairB p.1 p.2) = true := by
    rw [List.all_eq_true]
    intro p hp
    obtain ⟨k, hk, rfl⟩ := List.getElem_of_mem hp
    rw [← atP_eq hk]; exact h k hk
  unfold pairsB; rw [this, decide_eq_true h20]; rfl
theorem pairB_small {na va : ByteArray} (h : pairB na va = true) : na.size ≤ 20 ∧ va.size ≤ 20 := by
  unfold pairB at h
  rw [Bool.and_eq_true, Bool.and_eq_true] at h
  exact ⟨wordB_size h.1.2, wordB_size h.2⟩
end Go.Proofs.YtimmoclemcnhnaaDoor

/- The walks of the specification's l04Join and PairsText. -/
namespace Go.Proofs.YtimmoclemcnhnaaDoor
open Go.RowKit

theorem joinP_take_succ {L : List (ByteArray × ByteArray)} {k : Nat} (h : k < L.length) : joinP (L.take (k + 1)) = (if k = 0 then ⟨#[]⟩ else joinP (L.take k) ++ ⟨#[59, 32]⟩) ++ (atP L k).1 ++ ⟨#[61]⟩ ++ (atP L k).2 := by
  rw [List.take_succ_eq_append_getElem h, atP_eq h]
  by_cases h0 : k = 0
  · subst h0
    rw [if_pos rfl]
    show pairT L[0] ++ flat [] = _
    rw [flat, app_nil, nil_app]; rfl
  · rw [if_neg h0, joinP_snoc _ _ (by intro e; have := congrArg List.length e; rw [List.length_take, List.length_nil] at this; omega)]
    show joinP (L.take k) ++ semi ++ (L[k].1 ++ equ ++ L[k].2) = _
    simp only [ByteArray.append_assoc]; rfl
theorem joinP_take_size {L : List (ByteArray × ByteArray)} (h : ∀ j, j < L.length → (atP L j).1.size ≤ 20 ∧ (atP L j).2.size ≤ 20) : ∀ k, k ≤ L.length → (joinP (L.take k)).size ≤ 43 * k
  | 0, _ => by rw [List.take_zero]; exact Nat.le_refl _
  | k + 1, hk => by
    have ih := joinP_take_size h k (by omega)
    have hz := h k (by omega)
    have e1 : (⟨#[59, 32]⟩ : ByteArray).size = 2 := rfl
    have e2 : (⟨#[61]⟩ : ByteArray).size = 1 := rfl
    rw [joinP_take_succ (by omega), ByteArray.size_append, ByteArray.size_append, ByteArray.size_append]
    split
    · have : (⟨#[]⟩ : ByteArray).size = 0 := rfl
      omega
    · rw [ByteArray.size_append]; omega
end Go.Proofs.YtimmoclemcnhnaaDoor

/- The walk of the specification's PairsRead. -/
namespace Go.Proofs.YtimmoclemcnhnaaDoor
open Go.RowKit

theorem infoPairS : (Tryd.prog.info? 99).map (fun i => (i.zero, i.size, i.bytes)) = some (some (.agg #[.string ⟨#[]⟩, .string ⟨#[]⟩]), 2, 32) := by kernel_rfl
/-- the pairs of the first k pieces -/
def readQ (L : List ByteArray) (k : Nat) : List (ByteArray × ByteArray) := (L.take k).map pairP
theorem readQ_succ {L : List ByteArray} {k : Nat} (h : k < L.length) : readQ L (k + 1) = readQ L k ++ [((pairP (atL L k)).1, (pairP (atL L k)).2)] := by
  have e : atL L k = L[k] := by simp [atL, h]
  unfold readQ
  rw [List.take_succ_eq_append_getElem h, List.map_append, e]; rfl
theorem readQ_len (L : List ByteArray) (k : Nat) : (readQ L k).length ≤ k := by unfold readQ; simp; omega
theorem readQ_small {t : ByteArray} (i : Nat) (h : i < (readQ (piecesL t) (piecesL t).length).length) : (atP (readQ (piecesL t) (piecesL t).length) i).1.size ≤ t.size ∧ (atP (readQ (piecesL t) (piecesL t).length) i).2.size ≤ t.size := by
  have hm := List.getElem_mem h
  rw [← atP_eq h] at hm
  unfold readQ at hm ⊢
  obtain ⟨x, hx, e⟩ := List.mem_map.1 hm
  rw [← e]
  have h1 := pairP_size x
  have h2 := piecesL_small t x (List.mem_of_mem_take hx)
  omega
theorem after_drew {w w' : World} (h : Below w.drew.heap.size w.drew w') : Below w.heap.size w w' := (Below.drew (Below.refl _ _)).trans h
theorem own_value {w : World} {B n sz : Nat} {e : TypeId} {v : Value} {xs : List Value} (h : w.ownsRow B e sz v n xs) : ∃ p c, v = .slice p n c := by
  obtain ⟨_, ⟨rfl, rfl⟩ | ⟨g, cap, _, rfl, _⟩⟩ := h
  · exact ⟨_, _, rfl⟩
  · exact ⟨_, _, rfl⟩
end Go.Proofs.YtimmoclemcnhnaaDoor
