/- The walks of the specification's l07Key, l07Less, l07Used. -/
import Derived.Test.YtimmoclemcnhnaaAreaT
import Derived.Deep.RegionHeld3
namespace Go.Proofs.Ytimmoclemcnhnaa
open Go.RowKit

set_option maxRecDepth 10000 in
set_option maxHeartbeats 1000000 in
theorem specKey_any (t : ByteArray) (w : World) : Calls Try.prog 24 #[.string t] w fun e w' => e = .returned (.bool (keyB t)) ∧ w' = w := by
  have HK : Hid (keyB t = (decide (1 ≤ t.size) && decide (t.size ≤ 200))) := rfl
  generalize keyB t = R at *
  by_cases h1 : 1 ≤ t.size
  · have q1 : decide ((1 : Int) ≤ (t.size : Int)) = true := by rw [decide_eq_true_iff]; omega
    by_cases h2 : t.size ≤ 200
    · have q2 : decide ((t.size : Int) ≤ (200 : Int)) = true := by rw [decide_eq_true_iff]; omega
      have HR : Hid (R = true) := by show _ = _; rw [HK.out, decide_eq_true h1, decide_eq_true h2]; rfl
      go_enter Try.func24, Try.ntmps24
      go_wp2
      go_ret
      exact ⟨ret_bool HR.out.symm, rfl⟩
    · have q2 : decide ((t.size : Int) ≤ (200 : Int)) = false := by rw [decide_eq_false_iff_not]; omega
      have HR : Hid (R = false) := by show _ = _; rw [HK.out, decide_eq_false h2, Bool.and_false]
      go_enter Try.func24, Try.ntmps24
      go_wp2
      go_ret
      exact ⟨ret_bool HR.out.symm, rfl⟩
  · have q1 : decide ((1 : Int) ≤ (t.size : Int)) = false := by rw [decide_eq_false_iff_not]; omega
    have HR : Hid (R = false) := by show _ = _; rw [HK.out, decide_eq_false h1]; rfl
    go_enter Try.func24, Try.ntmps24
    go_wp2
    go_ret
    exact ⟨ret_bool HR.out.symm, rfl⟩
theorem lss_text (t : TypeId) (a b : ByteArray) : binOp .lss t (.string a) (.string b) = pure (.bool (Op.bytesLess a.toList b.toList)) := by simp [binOp, Op.stringOp]
set_option maxRecDepth 10000 in
set_option maxHeartbeats 1000000 in
theorem specLess_any (a b : En) (w : World) : Calls Try.prog 26 #[enV a, enV b] w fun e w' => e = .returned (.bool (enLess a b)) ∧ Below w.heap.size w w' := by
  obtain ⟨k1, n1, v1⟩ := a
  obtain ⟨k2, n2, v2⟩ := b
  unfold enV
  dsimp only
  have HK : Hid (enLess ⟨k1, n1, v1⟩ ⟨k2, n2, v2⟩ = (Op.bytesLess k1.toList k2.toList || ((k1.toList == k2.toList) && Op.bytesLess n1.toList n2.toList))) := rfl
  generalize enLess ⟨k1, n1, v1⟩ ⟨k2, n2, v2⟩ = R at *
  cases h1 : Op.bytesLess k1.toList k2.toList with
  | true =>
    have HR : Hid (R = true) := by show _ = _; rw [HK.out, h1]; rfl
    go_enter Try.func26, Try.ntmps26
    go_wp2
    go_ret
    exact ⟨ret_bool HR.out.symm, ((Below.refl _ _).alloc (Nat.le_refl _) _).alloc (by simp) _⟩
  | false =>
    cases h2 : (k1.toList == k2.toList) with
    | false =>
      have HR : Hid (R = false) := by show _ = _; rw [HK.out, h1, h2]; rfl
      go_enter Try.func26, Try.ntmps26
      go_wp2
      go_ret
      exact ⟨ret_bool HR.out.symm, ((Below.refl _ _).alloc (Nat.le_refl _) _).alloc (by simp) _⟩
    | true =>
      have HR : Hid (R = Op.bytesLess n1.toList n2.toList) := by show _ = _; rw [HK.out, h1, h2]; rfl
      go_enter Try.func26, Try.ntmps26
      go_wp2
      go_ret
      exact ⟨ret_bool HR.out.symm, ((Below.refl _ _).alloc (Nat.le_refl _) _).alloc (by simp) _⟩
set_option maxRecDepth 10000 in
set_option maxHeartbeats 4000000 in
theorem specUsed_any (v : Value) (L : List En) (key : ByteArray) (B : Nat) (w : World) (hs : SliceE w B v L) (hn : L.length ≤ 16) (hz : ∀ i, i < L.length → (atE L i).na.size ≤ 1048576 ∧ (atE L i).va.size ≤ 1048576) :
    Calls Try.prog 27 #[v, .string key] w fun e w' => e = .returned (.int .i64 (usedN L key : Int)) ∧ Below w.heap.size w w' := by
  obtain ⟨⟨p, cap, rfl, hg⟩, -⟩ := hs
  have HG : Hid (0 < L.length → ∃ g, p = some ⟨g, 0, none⟩ ∧ g < w.heap.size ∧ ∀ j, j < L.length → ∀ o, o < 3 → w.cell? ⟨g, j * 3 + o, none⟩ = some (enC (atE L j) o)) := fun h0 => by
    obtain ⟨g, e, -, hgw, hc⟩ := hg h0
    exact ⟨g, e, hgw, fun j hj o ho => (hc j hj o ho).1⟩
  have HZ : Hid (∀ i, i < L.length → (atE L i).na.size ≤ 1048576 ∧ (atE L i).va.size ≤ 1048576) := hz
  have HS : Hid (∀ k, usedTo L key (k + 1) = usedTo L key k + (if ((atE L k).ke.toList == key.toList) = true then enN (atE L k) else 0)) := fun k => rfl
  clear hg hz
  go_enter Try.func27, Try.ntmps27
  go_wp2
  go_loopw [5, 6] (fun n i wr => ∃ k : Nat, k ≤ L.length ∧ i = .int .i64 k ∧ n = .int .i64 (usedTo L key k : Int) ∧ usedTo L key k ≤ k * 2097152 ∧ Hid (Below w.heap.size w wr)) (fun _ i _ => L.length - (intOf i).toNat)
  case atStart => exact ⟨0, Nat.zero_le _, rfl, rfl, Nat.zero_le _, Below.refl _ _⟩
  case round =>
    obtain ⟨k, hk, rfl, rfl, hb, HB⟩ := hrel
    by_cases hlt : k < L.length
    · obtain ⟨g, rfl, hgw, hc⟩ := HG.out (by omega)
      have hz1 := (HZ.out k hlt).1
      have hz2 := (HZ.out k hlt).2
      have c0 : wr.cell? ⟨g, k * 3, none⟩ = some (.string (atE L k).ke) := by rw [(bcell HB.out).1 _ _ hgw]; exact hc k hlt 0 (by omega)
      have c1 : wr.cell? ⟨g, k * 3 + 1, none⟩ = some (.string (atE L k).na) := by rw [(bcell HB.out).1 _ _ hgw]; exact hc k hlt 1 (by omega)
      have c2 : wr.cell? ⟨g, k * 3 + 2, none⟩ = some (.string (atE L k).va) := by rw [(bcell HB.out).1 _ _ hgw]; exact hc k hlt 2 (by omega)
      have k0 : (0 : Int) ≤ k := by omega
      have k1 : (k : Int) < L.length := by omega
      have HSk := HS.out k
      have HE : Hid (enN (atE L k) = (atE L k).na.size + (atE L k).va.size) := rfl
      clear hc
      cases hq : ((atE L k).ke.toList == key.toList) with
      | true =>
        rw [hq, if_pos rfl, HE.out] at HSk
        have HN : Hid (usedTo L key (k + 1) = usedTo L key k + ((atE L k).na.size + (atE L k).va.size)) := HSk
        have HU : Hid (usedTo L key (k + 1) ≤ (k + 1) * 2097152) := by show _ ≤ _; have := HN.out; omega
        clear HSk HE HS HZ HG
        generalize usedTo L key k = u at *
        generalize atE L k = y at *
        obtain ⟨ke, na, va⟩ := y
        dsimp only at *
        have hw1 : IntKind.i64.wrap ((na.size : Int) + (va.size : Int)) = (na.size : Int) + (va.size : Int) := by rw [IntKind.wrap_i64]; omega
        have hw2 : IntKind.i64.wrap ((u : Int) + ((na.size : Int) + (va.size : Int))) = (u : Int) + ((na.size : Int) + (va.size : Int)) := by rw [IntKind.wrap_i64]; omega
        go_wp2_with fail
        go_region_held3 (fun w' => w'.cell? ⟨g, k * 3 + 1, none⟩ = some (.string na) ∧ w'.cell? ⟨g, k * 3 + 2, none⟩ = some (.string va)) (go_keep) (fail)
        all_goals go_wp2
        all_goals go_roundw
        case rel => exact ⟨k + 1, by omega, by go_num, by rw [HN.out]; exact val_int (by omega), HU.out, HB.out.drew⟩
        case measure => simp [intOf]; omega
      | false =>
        rw [hq, if_neg (by decide)] at HSk
        have HN : Hid (usedTo L key (k + 1) = usedTo L key k) := HSk
        have HU : Hid (usedTo L key (k + 1) ≤ (k + 1) * 2097152) := by show _ ≤ _; have := HN.out; omega
        clear HSk HE HS HZ HG
        generalize usedTo L key k = u at *
        generalize atE L k = y at *
        obtain ⟨ke, na, va⟩ := y
        dsimp only at *
        go_wp2
        go_roundw
        case rel => exact ⟨k + 1, by omega, by go_num, by rw [HN.out], HU.out, HB⟩
        case measure => simp [intOf]; omega
    · obtain rfl : k = L.length := by omega
      go_wp2
      go_ret
      exact ⟨rfl, HB.out⟩
end Go.Proofs.Ytimmoclemcnhnaa
