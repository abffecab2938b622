/- 6 of this claim's texts, one behind the other. -/
import Derived.Test.YthcpmbolnmlohaaDoorPart3
import Derived.Handed
import Derived.Lay
import Derived.MakeChecks
import Derived.Lib.LaidTab
import Derived.Stop.LaidErr
import Derived.Test.YthcpmbolnmlohaaDoorPart1
import Derived.Lib.TrimByte
import Derived.Laws.IdiomArrays
import Derived.LaidLaws
import Derived.WalkSmall
import Derived.Carry
import Derived.ChangeVars
import Derived.OpenShut
/- The lifting of a law's walk to a row that lists package-level variables, the world's shape kept; what the shape and the list give a walk. -/
namespace Go.Proofs.YthcpmbolnmlohaaDoor
open Go.RowKit

theorem Ld.own : ownKnob Tryd.prog.godebug = none := by kernel_rfl
theorem Ld.laidOut : laidOutB Tryd.prog = true := by kernel_rfl
set_option maxRecDepth 10000 in
theorem lift_laid {H : Type} {enc : TypeId × Value → H} {os : Os} {f : FuncId} {fn : Func} {s : ChangeSpec} {X : World → Prop} (hX : ∀ (w w' : World), w.heap = w'.heap → X w → X w')
    (started : os.Started) (noInit : Tryd.prog.inits.idxOf? f = none) (hfn : Tryd.prog.funcs[f]? = some fn)
    (start : ∃ (w : World) (tape : Tape) (i : Input), w.os = os ∧ (w.forCall tape i).Shaped Tryd.prog ∧ i.vars = [] ∧ Input.okWide Tryd.prog (w.forCall tape i) .any w.heap.size f i ∧
      ((s.pre enc Tryd.prog fn [] false (w.forCall tape i).memory i.args ∧ X (w.forCall tape i).memory) ∧ sizedMet enc Tryd.prog fn (OpenSpec.ofChange s) false (w.forCall tape i).memory i.args) ∧ Assume.holds {} Tryd.prog (lone (Frame.enter Tryd.prog f i.args .normal) [] (w.forCall tape i)))
    (walk : ∀ (W : World) (base : Nat) (args : Array Value) (ds gs : List (DataW H)) (before : List MemPlace),
      (∀ (j : Nat) t v, fn.params[j]? = some t → args[j]? = some v → Value.okWide Tryd.prog W .any base t v) →
      DataW.Whole enc Tryd.prog fn.params.toList s.vars false W args.toList ds gs before → X W → W.ShapedOpen Tryd.prog →
      Calls Tryd.prog f args W fun e W' => ∃ v, e = .returned v ∧ s.post enc Tryd.prog fn false true false false W args v W') :
    ReturnsInHanded {} Tryd.checked os f .any (fun w args => (s.pre enc Tryd.prog fn [] false w args ∧ X w) ∧ sizedMet enc Tryd.prog fn (OpenSpec.ofChange s) false w args) (s.post enc Tryd.prog fn false true false false) := by
  refine returnsInHanded_of_calls (C := Tryd.checked) Ld.own started noInit start ?_
  intro w tape i _ hsh _ hok hpre _
  obtain ⟨_, _, _, fn2, hfn2, _, _, _, _, hval⟩ := hok
  obtain rfl : fn2 = fn := Option.some.inj (hfn2.symm.trans hfn)
  obtain ⟨⟨⟨ds, gs, before, hw, _⟩, hx⟩, _⟩ := hpre
  have hw2 := DataW.Whole.of_heap (w' := w.forCall tape i) (by rfl) hw
  refine (walk (w.forCall tape i) w.heap.size i.args ds gs before hval hw2 (hX _ _ (by rfl) hx) hsh).mono fun e W' ⟨v, he, hp⟩ => ?_
  subst he
  exact ChangeSpec.post_blind hp
set_option maxRecDepth 10000 in
theorem maxI_of_shape {W : World} (h : W.ShapedOpen Tryd.prog) : MaxI W := Tryd.lays146.s1_3 W h
set_option maxRecDepth 10000 in
theorem Ld.pow : (Rows.laid_internal_strconv_uint64pow10 : DataW Unit) = Lib.tabData .u64 Lib.pow10Tab := by kernel_rfl
set_option maxRecDepth 10000 in
theorem pow_of_laid {W : World} {l : List (String × DataW Unit)} {a b : String × DataW Unit} {r : List (String × DataW Unit)} (hh : (l.all fun x => x.2.handleName?.isNone) = true)
    (hl : l = a :: b :: ("internal/strconv.uint64pow10", Rows.laid_internal_strconv_uint64pow10) :: r) (h : laidMetH Tryd.prog l W) : Lib.TabIs Tryd.prog W "internal/strconv.uint64pow10" .u64 Lib.pow10Tab := by
  rw [MakeChecks.laidMetH_plain _ _ _ hh, hl, Ld.pow] at h
  exact Lib.tabIs_of_head (g := 1) (t := 122) (e := 74) (n := 20) (by kernel_rfl) (by kernel_rfl) Tryd.underlying122 Tryd.underlying74 (by kernel_rfl) (by kernel_rfl) h.tail.tail
end Go.Proofs.YthcpmbolnmlohaaDoor

/- A text without blanks at its ends; the walk of the specification's l04Trim. -/
namespace Go.Proofs.YthcpmbolnmlohaaDoor
open Go.RowKit

def trimL (t : ByteArray) : ByteArray := if h : 0 < t.size then (if t[0].toNat = 32 then trimL (t.extract 1 t.size) else t) else t
termination_by t.size
decreasing_by rw [ByteArray.size_extract]; omega
def trimR (t : ByteArray) : ByteArray := if h : 0 < t.size then (if t[t.size - 1].toNat = 32 then trimR (t.extract 0 (t.size - 1)) else t) else t
termination_by t.size
decreasing_by rw [ByteArray.size_extract]; omega
def szT : Value → Nat
  | .string s => s.size
  | _ => 0
/-- without the blanks at its ends -/
def trimB (t : ByteArray) : ByteArray := trimR (trimL t)
theorem trimL_yes {t : ByteArray} (h : 0 < t.size) (hc : t[0].toNat = 32) : trimL t = trimL (t.extract 1 t.size) := by rw [trimL, dif_pos h, if_pos hc]
theorem trimL_no {t : ByteArray} (h : 0 < t.size) (hc : ¬ t[0].toNat = 32) : trimL t = t := by rw [trimL, dif_pos h, if_neg hc]
theorem trimL_nil {t : ByteArray} (h : ¬ 0 < t.size) : trimL t = t := by rw [trimL, dif_neg h]
theorem trimR_yes {t : ByteArray} (h : 0 < t.size) (hc : t[t.size - 1].toNat = 32) : trimR t = trimR (t.extract 0 (t.size - 1)) := by rw [trimR, dif_pos h, if_pos hc]
theorem trimR_no {t : ByteArray} (h : 0 < t.size) (hc : ¬ t[t.size - 1].toNat = 32) : trimR t = t := by rw [trimR, dif_pos h, if_neg hc]
theorem trimR_nil {t : ByteArray} (h : ¬ 0 < t.size) : trimR t = t := by rw [trimR, dif_neg h]

set_option maxRecDepth 10000 in
set_option maxHeartbeats 2000000 in
theorem specTrim_any (t : ByteArray) (w : World) (ht : t.size ≤ 1048576) :
    Calls Tryd.prog 41 #[.string t] w fun e w' => e = .returned (.string (trimB t)) ∧ w' = w := by
  have rs : ∀ {a b : ByteArray}, a = b → (Ending.returned (.string a)) = .returned (.string b) := fun h => by rw [h]
  go_enter Tryd.func41, Tryd.ntmps41
  go_wp2
  go_loop [0] (fun x => ∃ u : ByteArray, x = .string u ∧ u.size ≤ t.size ∧ Hid (trimL u = trimL t)) (fun x => szT x)
  case atStart => exact ⟨t, rfl, Nat.le_refl _, rfl⟩
  case round =>
    obtain ⟨u, rfl, hu, HT⟩ := hrel
    by_cases hy : ∃ h : 0 < u.size, u[0].toNat = 32
    · obtain ⟨h, hc⟩ := hy
      have q : decide ((0 : Int) < (u.size : Int)) = true := by rw [decide_eq_true_iff]; omega
      have q2 : ((u[0].toNat : Int) == 32) = true := by rw [beq_iff_eq]; omega
      have HM : Hid (trimL (u.extract 1 u.size) = trimL t) := by show _ = _; rw [← HT.out, trimL_yes h hc]
      have hz : (u.extract 1 u.size).size = u.size - 1 := by rw [ByteArray.size_extract]; omega
      clear hc
      go_wp2
      go_round
      case rel => exact ⟨u.extract 1 u.size, by first | rfl | go_num, by omega, HM⟩
      case measure => first | (simp [szT]; omega) | (show (u.extract 1 u.size).size < u.size; omega)
    have HM : Hid (u = trimL t) := by
      show _ = _
      rw [← HT.out]
      by_cases h : 0 < u.size
      · rw [trimL_no h (fun hc => hy ⟨h, hc⟩)]
      · rw [trimL_nil h]
    have HF : Hid (trimR u = trimB t) := by show _ = _; rw [trimB, ← HM.out]
    clear HT HM
    by_cases h : 0 < u.size
    all_goals
      first
        | (have q2 : ((u[0].toNat : Int) == 32) = false := by rw [beq_eq_false_iff_ne]; intro hc; exact hy ⟨h, by omega⟩
           have q : decide ((0 : Int) < (u.size : Int)) = true := by rw [decide_eq_true_iff]; omega)
        | (have q : decide ((0 : Int) < (u.size : Int)) = false := by rw [decide_eq_false_iff_not]; omega)
      clear hy
      go_wp2
      go_loop [0] (fun x => ∃ u' : ByteArray, x = .string u' ∧ u'.size ≤ t.size ∧ Hid (trimR u' = trimB t)) (fun x => szT x)
      case atStart => exact ⟨u, rfl, hu, HF⟩
      case round =>
        obtain ⟨x, rfl, hx, HX⟩ := hrel
        by_cases hp : 0 < x.size
        · have p : decide ((0 : Int) < (x.size : Int)) = true := by rw [decide_eq_true_iff]; omega
          have k0 : (0 : Int) ≤ (x.size : Int) - 1 := by omega
          have k1 : (x.size : Int) - 1 ≤ x.size := by omega
          have ek : (x.size : Int) - 1 = ((x.size - 1 : Nat) : Int) := by omega
          by_cases hc : x[x.size - 1].toNat = 32
          · have p2 : ((x[x.size - 1].toNat : Int) == 32) = true := by rw [beq_iff_eq]; omega
            have HM : Hid (trimR (x.extract 0 (x.size - 1)) = trimB t) := by show _ = _; rw [← HX.out, trimR_yes hp hc]
            have hz : (x.extract 0 (x.size - 1)).size = x.size - 1 := by rw [ByteArray.size_extract]; omega
            clear hc
            go_wp2
            go_round
            case rel => exact ⟨x.extract 0 (x.size - 1), by first | rfl | go_num, by omega, HM⟩
            case measure => first | (simp [szT]; omega) | (show (x.extract 0 (x.size - 1)).size < x.size; omega)
          · have p2 : ((x[x.size - 1].toNat : Int) == 32) = false := by rw [beq_eq_false_iff_ne]; omega
            have HM : Hid (x = trimB t) := by show _ = _; rw [← HX.out, trimR_no hp hc]
            clear hc
            go_wp2
            go_ret
            exact ⟨rs HM.out, rfl⟩
        · have p : decide ((0 : Int) < (x.size : Int)) = false := by rw [decide_eq_false_iff_not]; omega
          have HM : Hid (x = trimB t) := by show _ = _; rw [← HX.out, trimR_nil hp]
          go_wp2
          go_ret
          exact ⟨rs HM.out, rfl⟩
end Go.Proofs.YthcpmbolnmlohaaDoor

/- The walk of the specification's ClearRead. -/
namespace Go.Proofs.YthcpmbolnmlohaaDoor
open Go.RowKit

def qCache : List UInt8 := [34, 99, 97, 99, 104, 101, 34]
def qCookies : List UInt8 := [34, 99, 111, 111, 107, 105, 101, 115, 34]
def qStorage : List UInt8 := [34, 115, 116, 111, 114, 97, 103, 101, 34]
def qStar : List UInt8 := [34, 42, 34]
/-- is one of the first k that word, or the star? -/
def clTo (q : List UInt8) (L : List ByteArray) : Nat → Bool
  | 0 => false
  | k + 1 => clTo q L k || ((trimB (atL L k)).toList == q) || ((trimB (atL L k)).toList == qStar)
def clOf (L : List ByteArray) : Int := (if clTo qCache L L.length = true then 1 else 0) + (if clTo qCookies L L.length = true then 2 else 0) + (if clTo qStorage L L.length = true then 4 else 0)
/-- what ClearRead tells -/
def clearI (t : ByteArray) : Int := if 8000 < t.size then 0 else clOf (splitB t 44)
theorem word_of (l : List UInt8) :
    ((l == qCache) = true ∧ (l == qCookies) = false ∧ (l == qStorage) = false ∧ (l == qStar) = false)
    ∨ ((l == qCache) = false ∧ (l == qCookies) = true ∧ (l == qStorage) = false ∧ (l == qStar) = false)
    ∨ ((l == qCache) = false ∧ (l == qCookies) = false ∧ (l == qStorage) = true ∧ (l == qStar) = false)
    ∨ ((l == qCache) = false ∧ (l == qCookies) = false ∧ (l == qStorage) = false ∧ (l == qStar) = true)
    ∨ ((l == qCache) = false ∧ (l == qCookies) = false ∧ (l == qStorage) = false ∧ (l == qStar) = false) := by
  by_cases h1 : l = qCache
  · subst h1; decide
  by_cases h2 : l = qCookies
  · subst h2; decide
  by_cases h3 : l = qStorage
  · subst h3; decide
  by_cases h4 : l = qStar
  · subst h4; decide
  refine .inr (.inr (.inr (.inr ⟨?_, ?_, ?_, ?_⟩))) <;> rw [beq_eq_false_iff_ne] <;> assumption

set_option maxRecDepth 10000 in
set_option maxHeartbeats 8000000 in
theorem specClearRead_any (t : ByteArray) (w : World) :
    Calls Tryd.prog 15 #[.string t] w fun e w' => e = .returned (.int .i64 (clearI t)) ∧ Below w.heap.size w w' := by
  by_cases h8 : 8000 < t.size
  · have HR : Hid (clearI t = 0) := by show _ = _; unfold clearI; rw [if_pos h8]
    go_enter Tryd.func15, Tryd.ntmps15
    go_wp2
    go_ret
    exact ⟨ret_int HR.out.symm, Below.refl _ _⟩
  have q8 : decide ((8000 : Int) < (t.size : Int)) = false := by rw [decide_eq_false_iff_not]; omega
  have HE : Hid (clearI t = clOf (splitB t 44)) := by show _ = _; unfold clearI; rw [if_neg h8]
  have HC : Hid (∀ W, Calls Tryd.prog 40 #[.string t, .int .u8 44] W fun e w' => ∃ v, e = .returned v ∧ w'.ownsRow W.heap.size 9 1 v (splitB t 44).length (strCells (splitB t 44)) ∧ Below W.heap.size W w') := fun W => split_any t 44 W (by omega)
  have HZ : Hid (∀ i, i < (splitB t 44).length → (atL (splitB t 44) i).size ≤ 1048576) := fun i hi => by
    have e : atL (splitB t 44) i = (splitB t 44)[i] := by simp [atL, hi]
    rw [e]
    have := splitB_small t 44 _ (List.getElem_mem hi)
    omega
  have hlen := splitB_len t 44
  generalize clearI t = RR at *
  generalize splitB t 44 = L at *
  go_enter Tryd.func15, Tryd.ntmps15
  go_wp2_with fail
  refine (HC.out _).mono ?_
  rintro e w1 ⟨vL, rfl, ho, hb1⟩
  have B1 : Hid (Below w.heap.size w w1) := hb1
  have S1 : Hid (SliceS w1 w.heap.size vL L.length (atL L)) := slice_of_own ho
  clear ho hb1 HC
  obtain ⟨pL, cL, rfl, hg'⟩ := S1.out
  have HG : Hid (0 < L.length → ∃ g, pL = some ⟨g, 0, none⟩ ∧ ∀ k, k < L.length → w1.cell? ⟨g, k, none⟩ = some (.string (atL L k))) := fun h => by
    obtain ⟨g, e, -, -, hc⟩ := hg' h
    exact ⟨g, e, fun k hk => (hc k hk).1⟩
  clear hg' S1
  go_wp2
  go_loop [4, 5, 6, 7] (fun a b c i => ∃ k : Nat, k ≤ L.length ∧ i = .int .i64 k ∧ a = .bool (clTo qCache L k) ∧ b = .bool (clTo qCookies L k) ∧ c = .bool (clTo qStorage L k)) (fun _ _ _ i => L.length - (intOf i).toNat)
  case atStart => exact ⟨0, Nat.zero_le _, rfl, rfl, rfl, rfl⟩
  case round =>
    obtain ⟨k, hk, rfl, rfl, rfl, rfl⟩ := hrel
    by_cases hlt : k < L.length
    · obtain ⟨g, rfl, hc⟩ := HG.out (by omega)
      have hck := hc k hlt
      have k0 : (0 : Int) ≤ k := by omega
      have k1 : (k : Int) < L.length := by omega
      have KT : Hid (∀ W, Calls Tryd.prog 41 #[.string (atL L k)] W fun e w' => e = .returned (.string (trimB (atL L k))) ∧ w' = W) := fun W => specTrim_any _ W (HZ.out k hlt)
      have N1 : Hid (clTo qCache L (k + 1) = (clTo qCache L k || ((trimB (atL L k)).toList == qCache) || ((trimB (atL L k)).toList == qStar))) := rfl
      have N2 : Hid (clTo qCookies L (k + 1) = (clTo qCookies L k || ((trimB (atL L k)).toList == qCookies) || ((trimB (atL L k)).toList == qStar))) := rfl
      have N3 : Hid (clTo qStorage L (k + 1) = (clTo qStorage L k || ((trimB (atL L k)).toList == qStorage) || ((trimB (atL L k)).toList == qStar))) := rfl
      clear hc HG
      generalize trimB (atL L k) = u at *
      generalize atL L k = x at *
      generalize clTo qCache L k = b1 at *
      generalize clTo qCookies L k = b2 at *
      generalize clTo qStorage L k = b3 at *
      rcases word_of u.toList with ⟨e1, e2, e3, e4⟩ | ⟨e1, e2, e3, e4⟩ | ⟨e1, e2, e3, e4⟩ | ⟨e1, e2, e3, e4⟩ | ⟨e1, e2, e3, e4⟩
      all_goals
        rw [e1, e4] at N1
        rw [e2, e4] at N2
        rw [e3, e4] at N3
        unfold qCache at e1
        unfold qCookies at e2
        unfold qStorage at e3
        unfold qStar at e4
        cases b1 <;> cases b2 <;> cases b3
        all_goals
          go_wp2_with (go_at_call 41; refine (KT.out _).mono ?_; rintro e w2 ⟨rfl, rfl⟩)
          go_round
          case rel => exact ⟨k + 1, by omega, by go_num, by rw [N1.out]; rfl, by rw [N2.out]; rfl, by rw [N3.out]; rfl⟩
          case measure => simp [intOf]; omega
    · obtain rfl : k = L.length := by omega
      have HF : Hid (RR = (if clTo qCache L L.length = true then 1 else 0) + (if clTo qCookies L L.length = true then 2 else 0) + (if clTo qStorage L L.length = true then 4 else 0)) := HE.out
      clear HE
      generalize clTo qCache L L.length = b1 at *
      generalize clTo qCookies L L.length = b2 at *
      generalize clTo qStorage L L.length = b3 at *
      cases b1 <;> cases b2 <;> cases b3
      all_goals
        go_wp2
        go_ret
        exact ⟨ret_int (by rw [HF.out]; rfl), B1.out⟩
end Go.Proofs.YthcpmbolnmlohaaDoor

/- What the library trims of blanks is what the specification trims. -/
namespace Go.Proofs.YthcpmbolnmlohaaDoor

theorem toNat_eq32 (b : UInt8) : b.toNat = 32 ↔ b = 32 := ⟨fun h => UInt8.toNat_inj.1 h, fun h => by rw [h]; rfl⟩
theorem trimL_data (t : ByteArray) : (trimL t).data.toList = t.data.toList.dropWhile (· == 32) := by
  generalize hn : t.size = n
  induction n using Nat.strongRecOn generalizing t with
  | _ n ih =>
    by_cases h : 0 < t.size
    · have hl : 0 < t.data.toList.length := by rw [← Lib.size_eq]; exact h
      have e0 : t.data.toList[0] = t[0] := byte_list h
      have ed : t.data.toList = t[0] :: t.data.toList.drop 1 := by
        conv => lhs; rw [← List.drop_zero (l := t.data.toList), List.drop_eq_getElem_cons hl, e0]
      by_cases hc : t[0].toNat = 32
      · have hz : (t.extract 1 t.size).size = t.size - 1 := by rw [ByteArray.size_extract]; omega
        rw [trimL_yes h hc, ih _ (by omega) _ hz, extract_list]
        conv => rhs; rw [ed]
        have : (t[0] == 32) = true := by rw [beq_iff_eq]; exact (toNat_eq32 _).1 hc
        rw [List.dropWhile_cons_of_pos (p := fun x : UInt8 => x == 32) this, List.take_of_length_le (by rw [List.length_drop, ← Lib.size_eq]; omega)]
      · rw [trimL_no h hc]
        have : ¬ (t[0] == 32) = true := by rw [beq_iff_eq]; exact fun e => hc ((toNat_eq32 _).2 e)
        conv => rhs; rw [ed]
        rw [List.dropWhile_cons_of_neg (p := fun x : UInt8 => x == 32) this, ← ed]
    · rw [trimL_nil h]
      have : t.data.toList = [] := List.length_eq_zero_iff.1 (by rw [← Lib.size_eq]; omega)
      rw [this]; rfl
theorem trimR_data (t : ByteArray) : (trimR t).data.toList = (t.data.toList.reverse.dropWhile (· == 32)).reverse := by
  generalize hn : t.size = n
  induction n using Nat.strongRecOn generalizing t with
  | _ n ih =>
    by_cases h : 0 < t.size
    · have hsz : t.data.toList.length = t.size := (Lib.size_eq t).symm
      have e0 : t.data.toList[t.size - 1]'(by omega) = t[t.size - 1] := byte_list (by omega)
      have ed : t.data.toList = t.data.toList.take (t.size - 1) ++ [t[t.size - 1]] := by
        conv => lhs; rw [← List.take_length (l := t.data.toList), hsz, show t.size = t.size - 1 + 1 by omega, List.take_succ_eq_append_getElem (by omega)]
        simp only [e0]
      by_cases hc : t[t.size - 1].toNat = 32
      · have hz : (t.extract 0 (t.size - 1)).size = t.size - 1 := by rw [ByteArray.size_extract]; omega
        rw [trimR_yes h hc, ih _ (by omega) _ hz, extract_list]
        conv => rhs; rw [ed]
        have : (t[t.size - 1] == 32) = true := by rw [beq_iff_eq]; exact (toNat_eq32 _).1 hc
        rw [List.reverse_append, List.reverse_singleton, List.singleton_append, List.dropWhile_cons_of_pos (p := fun x : UInt8 => x == 32) this, List.drop_zero, Nat.sub_zero]
      · rw [trimR_no h hc]
        have : ¬ (t[t.size - 1] == 32) = true := by rw [beq_iff_eq]; exact fun e => hc ((toNat_eq32 _).2 e)
        conv => rhs; rw [ed]
        rw [List.reverse_append, List.reverse_singleton, List.singleton_append, List.dropWhile_cons_of_neg (p := fun x : UInt8 => x == 32) this, List.reverse_cons, List.reverse_reverse, ← ed]
    · rw [trimR_nil h]
      have : t.data.toList = [] := List.length_eq_zero_iff.1 (by rw [← Lib.size_eq]; omega)
      rw [this]; rfl
theorem drop_rev (p : UInt8 → Bool) : ∀ l : List UInt8, (((l.dropWhile p).reverse).dropWhile p).reverse = ((l.reverse.dropWhile p).reverse).dropWhile p
  | [] => rfl
  | a :: l => by
    by_cases ha : p a = true
    · rw [List.dropWhile_cons_of_pos ha, drop_rev p l, List.reverse_cons]
      by_cases hall : l.reverse.dropWhile p = []
      · rw [hall]
        have h2 : (l.reverse ++ [a]).dropWhile p = [] := by
          rw [List.dropWhile_append, hall]
          simp [ha]
        rw [h2]
      · have h2 : (l.reverse ++ [a]).dropWhile p = l.reverse.dropWhile p ++ [a] := by
          rw [List.dropWhile_append]
          simp [List.isEmpty_iff, hall]
        rw [h2, List.reverse_append, List.reverse_singleton, List.singleton_append, List.dropWhile_cons_of_pos ha]
    · rw [List.dropWhile_cons_of_neg ha]
      have h2 : ∃ r, ((a :: l).reverse.dropWhile p).reverse = a :: r := by
        rw [List.reverse_cons, List.dropWhile_append]
        by_cases hall : l.reverse.dropWhile p = []
        · rw [hall]; simp [ha]
        · simp [List.isEmpty_iff, hall]
      obtain ⟨r, hr⟩ := h2
      rw [hr, List.dropWhile_cons_of_neg ha]
theorem trim_lib (t : ByteArray) : (⟨(Lib.trimB t.data.toList 32).toArray⟩ : ByteArray) = trimB t := by
  apply ByteArray.ext
  apply Array.toList_inj.1
  show Lib.trimB t.data.toList 32 = (trimB t).data.toList
  unfold trimB Lib.trimB Lib.trimLeftB Lib.trimRightB
  rw [trimR_data, trimL_data, drop_rev]
end Go.Proofs.YthcpmbolnmlohaaDoor

/- The walks of the program's kindsOf and ClearRead. -/
namespace Go.Proofs.YthcpmbolnmlohaaDoor
open Go.RowKit

/-- the program's three words -/
def KindI (w : World) : Prop := w.cell? ⟨0, 0, none⟩ = some (.string ⟨#[34, 99, 97, 99, 104, 101, 34]⟩) ∧ w.cell? ⟨0, 1, none⟩ = some (.string ⟨#[34, 99, 111, 111, 107, 105, 101, 115, 34]⟩) ∧ w.cell? ⟨0, 2, none⟩ = some (.string ⟨#[34, 115, 116, 111, 114, 97, 103, 101, 34]⟩)
theorem KindI.on {w w' : World} (h : KindI w) (hb : Below w.heap.size w w') : KindI w' := by
  obtain ⟨h0, h1, h2⟩ := h
  have hlt : 0 < w.heap.size := World.block_lt_of_cell? w ⟨0, 0, none⟩ h0
  exact ⟨by rw [(bcell hb).1 _ _ hlt]; exact h0, by rw [(bcell hb).1 _ _ hlt]; exact h1, by rw [(bcell hb).1 _ _ hlt]; exact h2⟩
/-- the kind that a word stands for -/
def kindO (u : ByteArray) : Int := if (u.toList == qStar) = true then 7 else if (u.toList == qCache) = true then 1 else if (u.toList == qCookies) = true then 2 else if (u.toList == qStorage) = true then 4 else 0

set_option maxRecDepth 100000 in
theorem kind_index0 (a b c : ByteArray) (W : World) : Sem.run Tryd.prog (Instr.index 53 (.agg #[.string a, .string b, .string c]) (.int .i64 0)) W = .ok (.string a) W := by kernel_rfl
set_option maxRecDepth 100000 in
theorem kind_index1 (a b c : ByteArray) (W : World) : Sem.run Tryd.prog (Instr.index 53 (.agg #[.string a, .string b, .string c]) (.int .i64 1)) W = .ok (.string b) W := by kernel_rfl
set_option maxRecDepth 100000 in
theorem kind_index2 (a b c : ByteArray) (W : World) : Sem.run Tryd.prog (Instr.index 53 (.agg #[.string a, .string b, .string c]) (.int .i64 2)) W = .ok (.string c) W := by kernel_rfl
set_option maxRecDepth 10000 in
set_option maxHeartbeats 4000000 in
theorem kindsOf_any (u : ByteArray) (w : World) (hK : KindI w) :
    Calls Tryd.prog 37 #[.string u] w fun e w' => e = .returned (.int .i64 (kindO u)) ∧ w' = w := by
  have HO : Hid (kindO u = if (u.toList == qStar) = true then 7 else if (u.toList == qCache) = true then 1 else if (u.toList == qCookies) = true then 2 else if (u.toList == qStorage) = true then 4 else 0) := rfl
  obtain ⟨k0, k1, k2⟩ := hK
  have x0 : ∀ (a b c : ByteArray) (W : World), Sem.run Tryd.prog (Instr.index 53 (.agg #[.string a, .string b, .string c]) (.int .i64 0)) W = .ok (.string a) W := kind_index0
  have x1 : ∀ (a b c : ByteArray) (W : World), Sem.run Tryd.prog (Instr.index 53 (.agg #[.string a, .string b, .string c]) (.int .i64 1)) W = .ok (.string b) W := kind_index1
  have x2 : ∀ (a b c : ByteArray) (W : World), Sem.run Tryd.prog (Instr.index 53 (.agg #[.string a, .string b, .string c]) (.int .i64 2)) W = .ok (.string c) W := kind_index2
  generalize kindO u = R at *
  rcases word_of u.toList with ⟨e1, e2, e3, e4⟩ | ⟨e1, e2, e3, e4⟩ | ⟨e1, e2, e3, e4⟩ | ⟨e1, e2, e3, e4⟩ | ⟨e1, e2, e3, e4⟩
  all_goals
    rw [e1, e2, e3, e4] at HO
    unfold qCache at e1
    unfold qCookies at e2
    unfold qStorage at e3
    unfold qStar at e4
  case inr.inr.inr.inl =>
    go_enter Tryd.func37, Tryd.ntmps37
    go_wp2
    go_ret
    exact ⟨ret_int (by rw [HO.out]; rfl), rfl⟩
  case inl =>
    go_enter Tryd.func37, Tryd.ntmps37
    go_wp2
    go_loop [8] (fun i => ∃ k : Nat, k ≤ 0 ∧ i = .int .i64 k) (fun i => 3 - (intOf i).toNat)
    case atStart => exact ⟨0, Nat.zero_le _, rfl⟩
    case round =>
      obtain ⟨k, hk, rfl⟩ := hrel
      rcases (show k = 0 by omega) with rfl
      · go_wp2
        go_ret
        exact ⟨ret_int (by rw [HO.out]; rfl), rfl⟩
  case inr.inl =>
    go_enter Tryd.func37, Tryd.ntmps37
    go_wp2
    go_loop [8] (fun i => ∃ k : Nat, k ≤ 1 ∧ i = .int .i64 k) (fun i => 3 - (intOf i).toNat)
    case atStart => exact ⟨0, Nat.zero_le _, rfl⟩
    case round =>
      obtain ⟨k, hk, rfl⟩ := hrel
      rcases (show k = 0 ∨ k = 1 by omega) with rfl | rfl
      · go_wp2
        go_round
        case rel => exact ⟨1, by omega, by first | rfl | go_num⟩
        case measure => first | decide | simp [intOf]
      · go_wp2
        go_ret
        exact ⟨ret_int (by rw [HO.out]; rfl), rfl⟩
  case inr.inr.inl =>
    go_enter Tryd.func37, Tryd.ntmps37
    go_wp2
    go_loop [8] (fun i => ∃ k : Nat, k ≤ 2 ∧ i = .int .i64 k) (fun i => 3 - (intOf i).toNat)
    case atStart => exact ⟨0, Nat.zero_le _, rfl⟩
    case round =>
      obtain ⟨k, hk, rfl⟩ := hrel
      rcases (show k = 0 ∨ k = 1 ∨ k = 2 by omega) with rfl | rfl | rfl
      · go_wp2
        go_round
        case rel => exact ⟨1, by omega, by first | rfl | go_num⟩
        case measure => first | decide | simp [intOf]
      · go_wp2
        go_round
        case rel => exact ⟨2, by omega, by first | rfl | go_num⟩
        case measure => first | decide | simp [intOf]
      · go_wp2
        go_ret
        exact ⟨ret_int (by rw [HO.out]; rfl), rfl⟩
  case inr.inr.inr.inr =>
    go_enter Tryd.func37, Tryd.ntmps37
    go_wp2
    go_loop [8] (fun i => ∃ k : Nat, k ≤ 3 ∧ i = .int .i64 k) (fun i => 3 - (intOf i).toNat)
    case atStart => exact ⟨0, Nat.zero_le _, rfl⟩
    case round =>
      obtain ⟨k, hk, rfl⟩ := hrel
      rcases (show k = 0 ∨ k = 1 ∨ k = 2 ∨ k = 3 by omega) with rfl | rfl | rfl | rfl
      · go_wp2
        go_round
        case rel => exact ⟨1, by omega, by first | rfl | go_num⟩
        case measure => first | decide | simp [intOf]
      · go_wp2
        go_round
        case rel => exact ⟨2, by omega, by first | rfl | go_num⟩
        case measure => first | decide | simp [intOf]
      · go_wp2
        go_round
        case rel => exact ⟨3, by omega, by first | rfl | go_num⟩
        case measure => first | decide | simp [intOf]
      · go_wp2
        go_ret
        exact ⟨ret_int (by rw [HO.out]; rfl), rfl⟩

/-- the kinds of the first k words -/
def kSum (L : List ByteArray) (k : Nat) : Int := (if clTo qCache L k = true then 1 else 0) + (if clTo qCookies L k = true then 2 else 0) + (if clTo qStorage L k = true then 4 else 0)
theorem split_comma (s : ByteArray) (w : World) (hG : MaxI w) (hs : s.size < 4294967281) :
    Calls Tryd.prog 36 #[.string s, .string ⟨#[44]⟩] w fun e w' => e = .returned (.slice (some ⟨w.heap.size, 0, none⟩) (splitB s 44).length (splitB s 44).length) ∧ w' = w.alloc (.cells (strCells (splitB s 44)).toArray 9) := by
  obtain ⟨m, hm⟩ := hG
  have h := Any.strings_Split { Tryd.lays146 with } Tryd.lays146.i9 s ⟨#[44]⟩ m w hs hm (Nat.le_refl 1)
  rw [lib_split s 44, lib_count s 44] at h
  exact h
theorem trim_call (s : ByteArray) (w : World) (hs : s.size ≤ 9223372036854775807) :
    Calls Tryd.prog 38 #[.string s, .string ⟨#[32]⟩] w fun e w' => e = .returned (.string (trimB s)) ∧ Below w.heap.size w w' := by
  have h := Any.strings_Trim_one Tryd.lays160 s 32 (by decide) w hs
  rw [trim_lib] at h
  refine h.mono ?_
  rintro e w' ⟨rfl, rfl | rfl⟩
  · exact ⟨rfl, Below.refl _ _⟩
  · exact ⟨rfl, (Below.refl _ _).drew⟩
set_option maxRecDepth 10000 in
set_option maxHeartbeats 8000000 in
theorem clearRead_any (t : ByteArray) (w : World) (hG : MaxI w) (hK : KindI w) :
    Calls Tryd.prog 13 #[.string t] w fun e w' => e = .returned (.int .i64 (clearI t)) ∧ Below w.heap.size w w' := by
  by_cases h8 : 8000 < t.size
  · have HR : Hid (clearI t = 0) := by show _ = _; unfold clearI; rw [if_pos h8]
    go_enter Tryd.func13, Tryd.ntmps13
    go_wp2
    go_ret
    exact ⟨ret_int HR.out.symm, Below.refl _ _⟩
  have q8 : decide ((8000 : Int) < (t.size : Int)) = false := by rw [decide_eq_false_iff_not]; omega
  have HE : Hid (clearI t = kSum (splitB t 44) (splitB t 44).length) := by show _ = _; unfold clearI; rw [if_neg h8]; rfl
  have HC : Hid (Calls Tryd.prog 36 #[.string t, .string ⟨#[44]⟩] w fun e w' => e = .returned (.slice (some ⟨w.heap.size, 0, none⟩) (splitB t 44).length (splitB t 44).length) ∧ w' = w.alloc (.cells (strCells (splitB t 44)).toArray 9)) := split_comma t w hG (by omega)
  have HZ : Hid (∀ i, i < (splitB t 44).length → (atL (splitB t 44) i).size ≤ 1048576) := fun i hi => by
    have e : atL (splitB t 44) i = (splitB t 44)[i] := by simp [atL, hi]
    rw [e]
    have := splitB_small t 44 _ (List.getElem_mem hi)
    omega
  have HCE : Hid (∀ j, j < (splitB t 44).length → (w.alloc (.cells (strCells (splitB t 44)).toArray 9)).cell? ⟨w.heap.size, j, none⟩ = some (.string (atL (splitB t 44) j))) := fun j hj => by
    have e : atL (splitB t 44) j = (splitB t 44)[j] := by simp [atL, hj]
    rw [e]; simp [strCells, hj]
  have hlen := splitB_len t 44
  have HK : Hid (KindI w) := hK
  clear hG hK
  generalize clearI t = RR at *
  generalize splitB t 44 = L at *
  go_enter Tryd.func13, Tryd.ntmps13
  go_wp2_with fail
  refine HC.out.mono ?_
  rintro e w1 ⟨rfl, rfl⟩
  have B1 : Hid (Below w.heap.size w (w.alloc (.cells (strCells L).toArray 9))) := (Below.refl _ _).alloc (Nat.le_refl _) _
  have hz1 : w.heap.size < (w.alloc (.cells (strCells L).toArray 9)).heap.size := by simp
  generalize w.alloc (.cells (strCells L).toArray 9) = w1 at *
  clear HC
  go_wp2
  go_loopw [3, 12] (fun v i wr => ∃ k : Nat, k ≤ L.length ∧ i = .int .i64 k ∧ v = .int .i64 (kSum L k) ∧ Hid (Below w1.heap.size w1 wr)) (fun _ i _ => L.length - (intOf i).toNat)
  case atStart => exact ⟨0, Nat.zero_le _, rfl, rfl, Below.refl _ _⟩
  case round =>
    obtain ⟨k, hk, rfl, rfl, HB⟩ := hrel
    by_cases hlt : k < L.length
    · have hck : wr.cell? ⟨w.heap.size, k, none⟩ = some (.string (atL L k)) := by rw [(bcell HB.out).1 _ _ hz1]; exact HCE.out k hlt
      have k0 : (0 : Int) ≤ k := by omega
      have k1 : (k : Int) < L.length := by omega
      have KT : Hid (∀ W, Calls Tryd.prog 38 #[.string (atL L k), .string ⟨#[32]⟩] W fun e w' => e = .returned (.string (trimB (atL L k))) ∧ Below W.heap.size W w') := fun W => trim_call _ W (by have := HZ.out k hlt; omega)
      have KO : Hid (∀ W, Below w.heap.size w W → Calls Tryd.prog 37 #[.string (trimB (atL L k))] W fun e w' => e = .returned (.int .i64 (kindO (trimB (atL L k)))) ∧ w' = W) := fun W hb => kindsOf_any _ W (HK.out.on hb)
      have B2 : Hid (Below w.heap.size w wr) := B1.out.trans (HB.out.mono B1.out.size)
      have NN : Hid (kSum L (k + 1) = (if (clTo qCache L k || ((trimB (atL L k)).toList == qCache) || ((trimB (atL L k)).toList == qStar)) = true then 1 else 0) + (if (clTo qCookies L k || ((trimB (atL L k)).toList == qCookies) || ((trimB (atL L k)).toList == qStar)) = true then 2 else 0) + (if (clTo qStorage L k || ((trimB (atL L k)).toList == qStorage) || ((trimB (atL L k)).toList == qStar)) = true then 4 else 0)) := rfl
      have HO : Hid (kindO (trimB (atL L k)) = if ((trimB (atL L k)).toList == qStar) = true then 7 else if ((trimB (atL L k)).toList == qCache) = true then 1 else if ((trimB (atL L k)).toList == qCookies) = true then 2 else if ((trimB (atL L k)).toList == qStorage) = true then 4 else 0) := rfl
      have N0 : Hid (kSum L k = (if clTo qCache L k = true then 1 else 0) + (if clTo qCookies L k = true then 2 else 0) + (if clTo qStorage L k = true then 4 else 0)) := rfl
      generalize kSum L k = S0 at *
      generalize kindO (trimB (atL L k)) = o at *
      generalize trimB (atL L k) = u at *
      generalize atL L k = x at *
      generalize clTo qCache L k = b1 at *
      generalize clTo qCookies L k = b2 at *
      generalize clTo qStorage L k = b3 at *
      rcases word_of u.toList with ⟨e1, e2, e3, e4⟩ | ⟨e1, e2, e3, e4⟩ | ⟨e1, e2, e3, e4⟩ | ⟨e1, e2, e3, e4⟩ | ⟨e1, e2, e3, e4⟩
      all_goals
        rw [e1, e2, e3, e4] at HO
        rw [e1, e2, e3, e4] at NN
        have ho := HO.out
        simp only [if_true, if_false, Bool.false_eq_true] at ho
        subst ho
        clear e1 e2 e3 e4 HO
        cases b1 <;> cases b2 <;> cases b3
        all_goals
          have n0 := N0.out
          simp at n0
          subst n0
          clear N0
          go_wp2_with fail
          refine (KT.out _).mono ?_
          rintro e w2 ⟨rfl, hb2⟩
          have B3 : Hid (Below w1.heap.size w1 w2) := HB.out.trans (hb2.mono HB.out.size)
          have C3 : Hid (Below w.heap.size w w2) := B2.out.trans (hb2.mono B2.out.size)
          clear hb2
          go_wp2_with (go_at_call 37; refine (KO.out _ C3.out).mono ?_; rintro e w3 ⟨rfl, rfl⟩)
          go_roundw
          case rel => exact ⟨k + 1, by omega, by go_num, by rw [NN.out]; rfl, B3⟩
          case measure => simp [intOf]; omega
    · obtain rfl : k = L.length := by omega
      go_wp2
      go_ret
      exact ⟨ret_int HE.out.symm, B1.out.trans (HB.out.mono B1.out.size)⟩
end Go.Proofs.YthcpmbolnmlohaaDoor

/- What a row's list of package-level variables gives a walk: the program's words of kinds, the library's two errors; a listed variable that reads behind the call as before it. -/
namespace Go.Proofs.YthcpmbolnmlohaaDoor
open Go.RowKit Go.ChangeShapes

theorem plain_of {l : List (String × DataW Unit)} {W : World} (hh : (l.all fun x => x.2.handleName?.isNone) = true) (h : laidMetH Tryd.prog l W) : laidMet Tryd.prog l W := by
  rw [MakeChecks.laidMetH_plain _ _ _ hh] at h; exact h
/-- a listed variable of an interface type holds a value of some type -/
theorem iface_of_met {P : Program} {W : World} {n nm : String} {d : DataW Unit} {r : List (String × DataW Unit)} {g : Nat} {ti : TypeId} {ms : Array (String × TypeId)} (h : laidMet P ((n, .iface nm d) :: r) W)
    (hg : P.globalNamed n = some g) (ht : (P.globals[g]?).map (·.type) = some ti) (hi : P.underlying ti = some (.interface ms)) : ∃ u v, W.cell? ⟨g, 0, none⟩ = some (.iface u v) := by
  obtain ⟨ps, ⟨g0, t0, cs0, f0, p0, q0, hg0, ht0, hv0, hd0, _, _⟩, _, _⟩ := h
  obtain rfl := Option.some.inj (hg.symm.trans hg0)
  obtain rfl := Option.some.inj (ht.symm.trans ht0)
  obtain ⟨_, u, v, hc, _, _⟩ := iface_of_trod hi hd0
  refine ⟨u, v, ?_⟩
  rw [World.var?_cell hg0 hv0 0, ← Array.getElem?_toList, hc]
  rfl
theorem text_lit {s : ByteArray} {l : List UInt8} (h : s.data.toList = l) : s = ⟨l.toArray⟩ := by
  subst h; rfl
set_option maxRecDepth 10000 in
theorem kind_of_met {W : World} {r : List (String × DataW Unit)} (h : laidMet Tryd.prog (("loop.example/g00551/impl.kindWords", Rows.laid_loop_example_g00551_impl_kindWords) :: r) W) : KindI W := by
  obtain ⟨ps, ⟨g0, t0, cs0, f0, p0, q0, hg0, ht0, hv0, hd0, _, _⟩, _, _⟩ := h
  have hg : Tryd.prog.globalNamed "loop.example/g00551/impl.kindWords" = some 0 := by kernel_rfl
  have ht : (Tryd.prog.globals[0]?).map (·.type) = some 53 := by kernel_rfl
  obtain rfl := Option.some.inj (hg.symm.trans hg0)
  obtain rfl := Option.some.inj (ht.symm.trans ht0)
  obtain ⟨_, _, _, _, hlen, _, _⟩ := DataW.trod_array Tryd.underlying53 hd0
  have hl : cs0.toList.length = 3 := hlen.trans (by kernel_rfl)
  obtain ⟨l0⟩ := cs0
  match l0, hl with
  | [c0, c1, c2], _ =>
    obtain ⟨y0, y1, y2, n, e, h0, h1, h2⟩ := trod_array3 Tryd.underlying53 (by kernel_rfl) hd0
    obtain ⟨s0, a0, rfl, _⟩ := DataW.trod_string Tryd.underlying9 h0
    obtain ⟨s1, a1, rfl, _⟩ := DataW.trod_string Tryd.underlying9 h1
    obtain ⟨s2, a2, rfl, _⟩ := DataW.trod_string Tryd.underlying9 h2
    simp only [List.cons.injEq, and_true] at a0 a1 a2
    subst a0 a1 a2
    simp only [Rows.laid_loop_example_g00551_impl_kindWords, Prod.mk.injEq, DataW.agg.injEq, List.cons.injEq, DataW.lit.injEq, Lit.string.injEq, and_true] at e
    obtain ⟨⟨e0, e1, e2⟩, _⟩ := e
    refine ⟨?_, ?_, ?_⟩
    · rw [World.var?_cell hg0 hv0 0, text_lit e0.symm]; rfl
    · rw [World.var?_cell hg0 hv0 1, text_lit e1.symm]; rfl
    · rw [World.var?_cell hg0 hv0 2, text_lit e2.symm]; rfl
/-- one listed variable reads on -/
theorem vars_on {H : Type} {enc : TypeId × Value → H} {n : String} {g : Nat} {t : TypeId} {cs : Array Value} {fuel : Nat} {d : DataW H} {p : List MemPlace} {W W' : World}
    (hr : Tryd.prog.readableRec t = true) (hrow : t < Tryd.prog.types.size) (hg : Tryd.prog.globalNamed n = some g) (ht : (Tryd.prog.globals[g]?).map (·.type) = some t) (hv : W.var? Tryd.prog n = some cs) (hlt : g < W.heap.size)
    (hd : DataW.trod enc Tryd.prog W 0 (fun _ => true) true fuel t cs.toList = some (d, p)) (hb : Below W.heap.size W W') :
    DataW.TrodVars enc Tryd.prog W' (fun b => decide (b < W.heap.size)) [n] [d] (MemPlace.row ⟨g, 0, none⟩ cs.size ++ p) := by
  have k : DataW.Trod enc Tryd.prog W 0 (fun _ => true) true t (.agg cs) d p := ⟨fuel, hd⟩
  obtain ⟨f', hd'⟩ := Below.trod Ld.laidOut hr hrow k hb (DataW.trod_lt fuel _ _ _ hd)
  exact trodVars_mk1 hg ht (var?_below hb hg hlt hv) hd'
theorem var_lt {P : Program} {W : World} {n : String} {g : Nat} {cs : Array Value} (hg : P.globalNamed n = some g) (hv : W.var? P n = some cs) : g < W.heap.size := by
  unfold World.var? at hv
  simp only [hg, Option.bind_some] at hv
  by_cases h : g < W.heap.size
  · exact h
  · rw [Array.getElem?_eq_none (by omega)] at hv; simp at hv
end Go.Proofs.YthcpmbolnmlohaaDoor
