/- At every Cookie the program's CookieRight answers as the specification's: the law FnExactCookieRight returns true and its argument reads behind the call as before it; the library's tables hold what the program's own text lays (the card ties them), and internal/bytealg.MaxLen any number. -/
import Derived.Test.YtfoekelhcmlagaaDoorPart2
import Derived.Test.YtfoekelhcmlagaaDoorTie
import Derived.Test.YtfoekelhcmlagaaDoorCards
import Derived.WalkKit
import Derived.ProofKit
import Derived.OpenShut
import Derived.ShutString
import Derived.ChangeOld
import Derived.Below
import Derived.Lib.SmallJoins
import Derived.LaidMore
import Derived.SevenTiedAt
import Derived.Stop.Joined
namespace Go.Proofs.YtfoekelhcmlagaaDoor.fnExactCookieRight
open Go.ChangeShapes Go.WideShapes Go.ChangeAt Go.RowKit
open Go.ChangeMaps (open_string shut_string)
set_option linter.unusedVariables false

set_option maxRecDepth 100000 in
theorem lifted (os : Os) (started : os.Started) (H : Type) (enc : TypeId × Value → H) :
    ReturnsInHanded {} Tryd.checked os 8 .any (fun w args => (Rows.fnExactCookieRightSpec.pre enc Tryd.prog Tryd.f8 [] false w args ∧ laidMetH Tryd.prog Rows.fnExactCookieRightRow.laid w) ∧ sizedMet enc Tryd.prog Tryd.f8 (OpenSpec.ofChange Rows.fnExactCookieRightSpec) false w args)
      (Rows.fnExactCookieRightSpec.post enc Tryd.prog Tryd.f8 false true false false) := by
  refine lift_laid (X := fun w => laidMetH Tryd.prog Rows.fnExactCookieRightRow.laid w) (fun _ _ hh h => h.of_heap hh) started (by kernel_rfl) Tryd.func8
    (ChangeSpec.witness_shaped (enc := enc) (C := Tryd.checked) (os := os) (X := fun w _ => laidMetH Tryd.prog Rows.fnExactCookieRightRow.laid w) false (World.laidAll Tryd.prog os Rows.fnExactCookieRightRow.laid) #[.agg #[.string ByteArray.empty, .string ByteArray.empty, .string ByteArray.empty, .bool false, .string ByteArray.empty, .bool false, .int .i64 0, .string ByteArray.empty, .int .i64 0, .int .i64 0]] 8 (World.laidAll_os _ _ _)
      (World.shaped_of_ZipB (by kernel_rfl) (by kernel_rfl)) (by kernel_rfl) (by kernel_rfl) (by kernel_rfl)
      (by rw [MakeChecks.laidMetH_plain _ _ _ (by kernel_rfl)]; exact laidMet_laidAll _ (by kernel_rfl) (by kernel_rfl))) ?_
  intro W base args ds gs before hval0 hW hL hsh
  have hval : ∀ (j : Nat) t v, Tryd.f8.params[j]? = some t → args[j]? = some v → Value.okWide Tryd.prog W .any base t v := hval0
  have hG := maxI_of_shape hsh
  have hW' := hW
  obtain ⟨p, q, hA0, hV, rfl, hfz, hnd⟩ := hW
  have hA : DataW.TrodAll enc Tryd.prog W 0 (fun _ => true) true Tryd.f8.params.toList args.toList ds p := hA0
  rw [Tryd.params8] at hA hval
  obtain ⟨v0, vs0, d0, ds0, p0, q0, hargs, rfl, rfl, h0, r0⟩ := trodAll_cons hA
  obtain ⟨rfl, rfl, rfl⟩ := trodAll_nil r0
  obtain rfl : args = #[v0] := by cases args; simp_all
  obtain ⟨rfl, rfl⟩ := trodVars_none hV
  have k0 := h0
  have lt0 : ∀ x ∈ p0, x.block < W.heap.size := by obtain ⟨m, hm⟩ := k0; exact DataW.trod_lt m _ _ _ hm
  obtain ⟨c00, c01, c02, c03, c04, c05, c06, c07, c08, c09, y00, y01, y02, y03, y04, y05, y06, y07, y08, y09, m0, rfl, g00, g01, g02, g03, g04, g05, g06, g07, g08, g09⟩ := open_agg10 Tryd.underlying56 (by kernel_rfl) (by kernel_rfl) (hval 0 56 v0 rfl rfl) h0
  obtain ⟨a0x, e00, rfl, w0x⟩ := DataW.trod_string Tryd.underlying9 g00
  simp at e00; subst e00
  obtain ⟨a0y, e01, rfl, w0y⟩ := DataW.trod_string Tryd.underlying9 g01
  simp at e01; subst e01
  obtain ⟨a0z, e02, rfl, w0z⟩ := DataW.trod_string Tryd.underlying9 g02
  simp at e02; subst e02
  obtain ⟨a0u, e03, rfl⟩ := DataW.trod_bool Tryd.underlying4 g03
  simp at e03; subst e03
  obtain ⟨a0v, e04, rfl, w0v⟩ := DataW.trod_string Tryd.underlying9 g04
  simp at e04; subst e04
  obtain ⟨a0w, e05, rfl⟩ := DataW.trod_bool Tryd.underlying4 g05
  simp at e05; subst e05
  obtain ⟨a0p, e06, rfl, w0p⟩ := DataW.trod_int Tryd.underlying2 g06
  simp at e06; subst e06
  obtain ⟨a0q, e07, rfl, w0q⟩ := DataW.trod_string Tryd.underlying9 g07
  simp at e07; subst e07
  obtain ⟨a0r, e08, rfl, w0r⟩ := DataW.trod_int Tryd.underlying2 g08
  simp at e08; subst e08
  obtain ⟨a0s, e09, rfl, w0s⟩ := DataW.trod_int Tryd.underlying2 g09
  simp at e09; subst e09
  clear hA0 hval0 hL hsh
  refine (lawCookie_any a0x a0y a0z a0u a0v a0w a0p a0q a0r a0s W hG w0x w0y w0z w0v w0q).mono fun e W' ⟨he, bel⟩ => ?_
  subst he
  exact ⟨_, rfl, _, _, _, [], _, [], hW', trodAll_mk1 (shut_bool Tryd.underlying4 _), (trodAll_cons_mk (Below.trod Ld.laidOut (by kernel_rfl) (of_decide_eq_true (by kernel_rfl)) k0 bel lt0) trodAll_mk0), rfl, bel.frame _, fun h => by cases h⟩

theorem over : Rows.FnExactCookieRightSaid :=
  OpenClaim.holds_of_wide 8 Tryd.f8 rfl rfl rfl rfl rfl rfl rfl ⟨rfl, rfl, rfl, rfl, rfl⟩ rfl rfl rfl rfl rfl (by kernel_rfl) Tryd.func8 (by kernel_rfl)
    (of_decide_eq_true (by kernel_rfl)) (by unfold Func.isWrapper; first | (rw [if_pos (by decide +kernel)]; kernel_rfl) | (rw [if_neg (by decide +kernel)]; exact ⟨rfl, rfl⟩))
    (fun os started H enc _ => lifted os started H enc)

theorem card : Rows.FnExactCookieRightCardSaid :=
  Claim7.holds_tied_plain_at .later [] _ _ _ _
    over (fun _ h => by cases h) (by kernel_rfl) (fun _ h => by cases h) fnExactCookieRight_row_tie rfl ⟨rfl, rfl⟩ (by kernel_rfl) rfl
    (fun f fn hf hfn => by
      obtain rfl : f = 8 := Option.some.inj ((show Tryd.prog.funcNamed Rows.fnExactCookieRightRow.func = some 8 by kernel_rfl).symm.trans hf) |>.symm
      obtain rfl : fn = Tryd.f8 := (Option.some.inj (Tryd.func8.symm.trans hfn)).symm
      exact ⟨by kernel_rfl, fun j t ht => by
        rw [Tryd.params8] at ht
        have hm : t ∈ [56] := by have := Array.mem_of_getElem? ht; simpa using this
        have hall : ([56].all fun u => !Tryd.prog.wantsStandIn u) = true := by kernel_rfl
        exact (show Tryd.prog.wantsStandIn t = false by simpa using List.all_eq_true.1 hall t hm)⟩)
    (by kernel_rfl)
end Go.Proofs.YtfoekelhcmlagaaDoor.fnExactCookieRight

namespace Go.Proofs.YtfoekelhcmlagaaDoor
theorem fnExactCookieRight_holds : Rows.FnExactCookieRightCardSaid := fnExactCookieRight.card
end Go.Proofs.YtfoekelhcmlagaaDoor
