/- The walk of the program's RuleRight. -/
import Derived.Test.YtddlnbmkknbegaaDoorRuleBack
import Derived.Test.YtddlnbmkknbegaaDoorImplHost
namespace Go.Proofs.YtddlnbmkknbegaaDoor
open Go.RowKit

theorem cutBang_call (s : ByteArray) (w : World) :
    Calls Tryd.prog 44 #[.string s, .string ⟨#[33]⟩] w fun e w' => e = .returned (.tuple #[.string (unbang s), .bool (bangB s)]) ∧ w' = w := by
  have h := Any.strings_CutPrefix Tryd.lays103 s ⟨#[33]⟩ w
  rw [bangB_lib]
  exact h
theorem trimStar_call (s : ByteArray) (w : World) :
    Calls Tryd.prog 47 #[.string s, .string ⟨#[42, 46]⟩] w fun e w' => e = .returned (.string (unstar s)) ∧ w' = w :=
  Any.strings_TrimPrefix Tryd.lays101 s ⟨#[42, 46]⟩ w
theorem hasPoint_call (s : ByteArray) (w : World) :
    Calls Tryd.prog 46 #[.string s, .string ⟨#[46]⟩] w fun e w' => e = .returned (.bool (decide (0 ≤ Lib.indexByte s.data.toList 46))) ∧ w' = w :=
  Any.strings_Contains_one Tryd.lays144 s 46 w

set_option maxRecDepth 10000 in
set_option maxHeartbeats 400000 in
theorem ruleRight_any (s : ByteArray) (w : World) (hG : MaxI w) (hs : s.size ≤ 1048576) :
    Calls Tryd.prog 20 #[.string s] w fun e w' => e = .returned (.bool (ruleB s)) ∧ Below w.heap.size w w' := by
  have HC : Hid (∀ W, Calls Tryd.prog 44 #[.string s, .string ⟨#[33]⟩] W fun e w' => e = .returned (.tuple #[.string (unbang s), .bool (bangB s)]) ∧ w' = W) := fun W => cutBang_call s W
  cases hb : bangB s with
  | true =>
    have HR : Hid (ruleB s = (hostB (unbang s) && decide (0 ≤ Lib.indexByte (unbang s).data.toList 46))) := ruleB_yes hb
    rw [hb] at HC
    have hz := unbang_le s
    have HH : Hid (Calls Tryd.prog 45 #[.string (unbang s)] w fun e w' => e = .returned (.bool (hostB (unbang s))) ∧ Below w.heap.size w w') := hostRight_any (unbang s) w hG (by omega)
    have HP : Hid (∀ W, Calls Tryd.prog 46 #[.string (unbang s), .string ⟨#[46]⟩] W fun e w' => e = .returned (.bool (decide (0 ≤ Lib.indexByte (unbang s).data.toList 46))) ∧ w' = W) := fun W => hasPoint_call (unbang s) W
    clear hb hG hz
    generalize decide (0 ≤ Lib.indexByte (unbang s).data.toList 46) = p at *
    generalize hostB (unbang s) = b at *
    generalize unbang s = u at *
    cases b with
    | false =>
      go_enter Tryd.func20, Tryd.ntmps20
      go_wp2_with (first | (go_at_call 44; refine (HC.out _).mono ?_; rintro e w1 ⟨rfl, rfl⟩) | (go_at_call 45; refine HH.out.mono ?_; rintro e w2 ⟨rfl, hb2⟩))
      go_ret
      exact ⟨ret_bool (by rw [HR.out]; rfl), hb2⟩
    | true =>
      go_enter Tryd.func20, Tryd.ntmps20
      go_wp2_with (first | (go_at_call 44; refine (HC.out _).mono ?_; rintro e w1 ⟨rfl, rfl⟩) | (go_at_call 45; refine HH.out.mono ?_; rintro e w2 ⟨rfl, hb2⟩) | (go_at_call 46; refine (HP.out _).mono ?_; rintro e w3 ⟨rfl, rfl⟩))
      go_ret
      exact ⟨ret_bool (by rw [HR.out]; rfl), hb2⟩
  | false =>
    have HR : Hid (ruleB s = hostB (unstar s)) := ruleB_no hb
    rw [hb] at HC
    have hz := unstar_le s
    have HH : Hid (Calls Tryd.prog 45 #[.string (unstar s)] w fun e w' => e = .returned (.bool (hostB (unstar s))) ∧ Below w.heap.size w w') := hostRight_any (unstar s) w hG (by omega)
    have HP : Hid (∀ W, Calls Tryd.prog 47 #[.string s, .string ⟨#[42, 46]⟩] W fun e w' => e = .returned (.string (unstar s)) ∧ w' = W) := fun W => trimStar_call s W
    clear hb hG hz
    generalize hostB (unstar s) = b at *
    generalize unstar s = u at *
    go_enter Tryd.func20, Tryd.ntmps20
    go_wp2_with (first | (go_at_call 44; refine (HC.out _).mono ?_; rintro e w1 ⟨rfl, rfl⟩) | (go_at_call 45; refine HH.out.mono ?_; rintro e w2 ⟨rfl, hb2⟩) | (go_at_call 47; refine (HP.out _).mono ?_; rintro e w3 ⟨rfl, rfl⟩))
    go_ret
    exact ⟨ret_bool (by rw [HR.out]), hb2⟩
end Go.Proofs.YtddlnbmkknbegaaDoor
