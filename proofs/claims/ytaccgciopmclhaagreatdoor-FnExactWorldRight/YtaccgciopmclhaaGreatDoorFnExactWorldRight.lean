/- At every World the program's WorldRight answers as the specification's: the law FnExactWorldRight returns true and its argument reads behind the call as before it; the program's five errors and the library's tables hold what the program's own text lays (the card ties them), and internal/bytealg.MaxLen any number. -/
import Derived.Test.YtaccgciopmclhaaGreatDoorPart17
import Derived.Test.YtaccgciopmclhaaGreatDoorTie
import Derived.Test.YtaccgciopmclhaaGreatDoorCards
import Derived.WalkKit
import Derived.ProofKit
import Derived.OpenShut
import Derived.ShutString
import Derived.ChangeOld
import Derived.Below
import Derived.Lib.SmallJoins
import Derived.LaidMore
import Derived.SevenTiedAt
import Derived.Stop.Joined
namespace Go.Proofs.YtaccgciopmclhaaGreatDoor.fnExactWorldRight
open Go.ChangeShapes Go.WideShapes Go.ChangeAt Go.RowKit
open Go.ChangeMaps (open_string shut_string)
set_option linter.unusedVariables false

set_option maxRecDepth 100000 in
theorem lifted (os : Os) (started : os.Started) (H : Type) (enc : TypeId × Value → H) :
    ReturnsInHanded {} Tryz.checked os 3 .any (fun w args => (Rows.fnExactWorldRightSpec.pre enc Tryz.prog Tryz.f3 [] false w args ∧ laidMetH Tryz.prog Rows.fnExactWorldRightRow.laid w) ∧ sizedMet enc Tryz.prog Tryz.f3 (OpenSpec.ofChange Rows.fnExactWorldRightSpec) false w args)
      (Rows.fnExactWorldRightSpec.post enc Tryz.prog Tryz.f3 false true false false) := by
  refine lift_laid (X := fun w => laidMetH Tryz.prog Rows.fnExactWorldRightRow.laid w) (fun _ _ hh h => h.of_heap hh) started (by kernel_rfl) Tryz.func3
    (ChangeSpec.witness_shaped (enc := enc) (C := Tryz.checked) (os := os) (X := fun w _ => laidMetH Tryz.prog Rows.fnExactWorldRightRow.laid w) false (World.laidAll Tryz.prog os Rows.fnExactWorldRightRow.laid) #[.agg #[.slice none 0 0, .slice none 0 0, .slice none 0 0, .slice none 0 0, .slice none 0 0, .slice none 0 0, .int .i64 0]] 8 (World.laidAll_os _ _ _)
      (World.shaped_of_ZipB (by kernel_rfl) (by kernel_rfl)) (by kernel_rfl) (by kernel_rfl) (by kernel_rfl)
      (by rw [MakeChecks.laidMetH_plain _ _ _ (by kernel_rfl)]; exact laidMet_laidAll _ (by kernel_rfl) (by kernel_rfl))) ?_
  intro W base args ds gs before hval0 hW hL hsh
  have hval : ∀ (j : Nat) t v, Tryz.f3.params[j]? = some t → args[j]? = some v → Value.okWide Tryz.prog W .any base t v := hval0
  have hG := maxI_of_shape hsh
  have hM : ErrsI W := ⟨iface_of_met (plain_of (by kernel_rfl) hL).tail (by kernel_rfl) (by kernel_rfl) Tryz.underlying141, iface_of_met (plain_of (by kernel_rfl) hL).tail.tail (by kernel_rfl) (by kernel_rfl) Tryz.underlying141, iface_of_met (plain_of (by kernel_rfl) hL).tail.tail.tail (by kernel_rfl) (by kernel_rfl) Tryz.underlying141, iface_of_met (plain_of (by kernel_rfl) hL).tail.tail.tail.tail (by kernel_rfl) (by kernel_rfl) Tryz.underlying141, iface_of_met (plain_of (by kernel_rfl) hL).tail.tail.tail.tail.tail (by kernel_rfl) (by kernel_rfl) Tryz.underlying141⟩
  have hW' := hW
  obtain ⟨p, q, hA0, hV, rfl, hfz, hnd⟩ := hW
  have hA : DataW.TrodAll enc Tryz.prog W 0 (fun _ => true) true Tryz.f3.params.toList args.toList ds p := hA0
  rw [Tryz.params3] at hA hval
  obtain ⟨v0, vs0, d0, ds0, p0, q0, hargs, rfl, rfl, h0, r0⟩ := trodAll_cons hA
  obtain ⟨rfl, rfl, rfl⟩ := trodAll_nil r0
  obtain rfl : args = #[v0] := by cases args; simp_all
  obtain ⟨gd1, gd2, gd3, gd4, gd5, rfl⟩ := vars5 hV
  have k0 := h0
  have lt0 : ∀ x ∈ p0, x.block < W.heap.size := by obtain ⟨m, hm⟩ := k0; exact DataW.trod_lt m _ _ _ hm
  obtain ⟨a0r, a0s, a0f, a0j, a0e, a0g, b0r, b0s, b0f, b0j, b0e, b0g, x0, rfl, c0, n0, w0⟩ := wdRow_of (hval 0 29 v0 rfl rfl) h0
  clear hA0 hval0 hL hsh
  refine (lawWorldRight_any a0r a0s a0f a0j a0e a0g b0r b0s b0f b0j b0e b0g x0 W hG hM c0 n0).mono fun e W' ⟨he, bel⟩ => ?_
  subst he
  exact ⟨_, rfl, _, _, _, [], _, _, hW', trodAll_mk1 (shut_bool Tryz.underlying4 _), (trodAll_cons_mk (Below.trod Ld.laidOut (by kernel_rfl) (of_decide_eq_true (by kernel_rfl)) k0 bel lt0) trodAll_mk0), varsAll_on bel errNames_read hV, bel.frame _, fun h => by cases h⟩

theorem over : Rows.FnExactWorldRightSaid :=
  OpenClaim.holds_of_wide 3 Tryz.f3 rfl rfl rfl rfl rfl rfl rfl ⟨rfl, rfl, rfl, rfl, rfl⟩ rfl rfl rfl rfl rfl (by kernel_rfl) Tryz.func3 (by kernel_rfl)
    (of_decide_eq_true (by kernel_rfl)) (by unfold Func.isWrapper; first | (rw [if_pos (by decide +kernel)]; kernel_rfl) | (rw [if_neg (by decide +kernel)]; exact ⟨rfl, rfl⟩))
    (fun os started H enc _ => lifted os started H enc)

theorem card : Rows.FnExactWorldRightCardSaid :=
  Claim7.holds_tied_plain_at .later [] _ _ _ _
    over (fun _ h => by cases h) (by kernel_rfl) (fun _ h => by cases h) fnExactWorldRight_row_tie rfl ⟨rfl, rfl⟩ (by kernel_rfl) rfl
    (fun f fn hf hfn => by
      obtain rfl : f = 3 := Option.some.inj ((show Tryz.prog.funcNamed Rows.fnExactWorldRightRow.func = some 3 by kernel_rfl).symm.trans hf) |>.symm
      obtain rfl : fn = Tryz.f3 := (Option.some.inj (Tryz.func3.symm.trans hfn)).symm
      exact ⟨by kernel_rfl, fun j t ht => by
        rw [Tryz.params3] at ht
        have hm : t ∈ [29] := by have := Array.mem_of_getElem? ht; simpa using this
        have hall : ([29].all fun u => !Tryz.prog.wantsStandIn u) = true := by kernel_rfl
        exact (show Tryz.prog.wantsStandIn t = false by simpa using List.all_eq_true.1 hall t hm)⟩)
    (by kernel_rfl)
end Go.Proofs.YtaccgciopmclhaaGreatDoor.fnExactWorldRight

namespace Go.Proofs.YtaccgciopmclhaaGreatDoor
theorem fnExactWorldRight_holds : Rows.FnExactWorldRightCardSaid := fnExactWorldRight.card
end Go.Proofs.YtaccgciopmclhaaGreatDoor
