/- The walk of the program's RulesRead. -/
import Derived.Test.YtddlnbmkknbegaaDoorImplSort
import Derived.Test.YtddlnbmkknbegaaDoorImplRule
import Derived.Test.YtddlnbmkknbegaaDoorTogether
namespace Go.Proofs.YtddlnbmkknbegaaDoor
open Go.RowKit

theorem split_lines (s : ByteArray) (w : World) (hG : MaxI w) (hs : s.size < 4294967281) :
    Calls Tryd.prog 50 #[.string s, .string ⟨#[10]⟩] w fun e w' => e = .returned (.slice (some ⟨w.heap.size, 0, none⟩) (splitB s 10).length (splitB s 10).length) ∧ w' = w.alloc (.cells (strCells (splitB s 10)).toArray 9) := by
  obtain ⟨m, hm⟩ := hG
  have h := Any.strings_Split { Tryd.lays146 with } Tryd.lays146.i9 s ⟨#[10]⟩ m w hs hm (Nat.le_refl 1)
  rw [lib_split s 10, lib_count s 10] at h
  exact h
set_option maxRecDepth 10000 in
set_option maxHeartbeats 4000000 in
theorem readR_any (s : ByteArray) (w : World) (hG : MaxI w) :
    Calls Tryd.prog 26 #[.string s] w fun e w' => ∃ v, e = .returned v ∧ SliceS w' w.heap.size v (readR s).length (atL (readR s)) ∧ Below w.heap.size w w' := by
  obtain ⟨i0, hi, hz0, hz1, hz2⟩ := info_parts infoStr
  by_cases h8 : 8000 < s.size
  · have HR : Hid (readR s = []) := readR_no h8
    go_enter Tryd.func26, Tryd.ntmps26
    go_wp2
    go_ret
    exact ⟨_, rfl, by rw [HR.out]; exact ⟨_, _, rfl, fun h => absurd h (by simp)⟩, Below.refl _ _⟩
  have q8 : decide ((8000 : Int) < (s.size : Int)) = false := by rw [decide_eq_false_iff_not]; omega
  have HE : Hid (readR s = (putsTo (splitB s 10) (splitB s 10).length).take 20) := readR_yes h8
  have HC : Hid (∀ W, MaxI W → Calls Tryd.prog 50 #[.string s, .string ⟨#[10]⟩] W fun e w' => e = .returned (.slice (some ⟨W.heap.size, 0, none⟩) (splitB s 10).length (splitB s 10).length) ∧ w' = W.alloc (.cells (strCells (splitB s 10)).toArray 9)) := fun W h => split_lines s W h (by omega)
  have HZ : Hid (∀ i, i < (splitB s 10).length → (atL (splitB s 10) i).size ≤ 8000) := fun i hi => by
    have e : atL (splitB s 10) i = (splitB s 10)[i] := by simp [atL, hi]
    rw [e]
    have := splitB_small s 10 _ (List.getElem_mem hi)
    omega
  have HG : Hid (MaxI w) := hG
  have hlen := splitB_len s 10
  have hL8 : (splitB s 10).length ≤ 8001 := by omega
  clear hlen hG
  have HPO : Hid (onceL (sortL (keptTo (splitB s 10) (splitB s 10).length)) = putsTo (splitB s 10) (splitB s 10).length) := puts_once _ _
  have HCE : Hid (∀ (W : World) j, j < (splitB s 10).length → (W.alloc (.cells (strCells (splitB s 10)).toArray 9)).cell? ⟨W.heap.size, j, none⟩ = some (.string (atL (splitB s 10) j))) := fun W j hj => by
    have e : atL (splitB s 10) j = (splitB s 10)[j] := by simp [atL, hj]
    rw [e]; simp [strCells, hj]
  generalize readR s = RR at *
  generalize splitB s 10 = L at *
  go_enter Tryd.func26, Tryd.ntmps26
  go_wp2_with fail
  refine (HC.out _ HG.out).mono ?_
  rintro e w1 ⟨rfl, rfl⟩
  have HB1 : Hid (Below w.heap.size w (w.alloc (.cells (strCells L).toArray 9))) := (Below.refl _ _).alloc (Nat.le_refl _) _
  have HC1 : Hid (∀ j, j < L.length → (w.alloc (.cells (strCells L).toArray 9)).cell? ⟨w.heap.size, j, none⟩ = some (.string (atL L j))) := HCE.out w
  have hz1' : w.heap.size < (w.alloc (.cells (strCells L).toArray 9)).heap.size := by simp
  generalize w.alloc (.cells (strCells L).toArray 9) = w1 at *
  clear HC HCE
  go_wp2
  go_loopw [3, 12] (fun v i wr => ∃ k : Nat, k ≤ L.length ∧ i = .int .i64 k ∧ Hid (wr.ownsRow w1.heap.size 9 1 v (keptTo L k).length (strCells (keptTo L k))) ∧ Hid (Below w1.heap.size w1 wr)) (fun _ i _ => L.length - (intOf i).toNat)
  case atStart => exact ⟨0, Nat.zero_le _, rfl, World.ownsRow_nil _ _ _ _, Below.refl _ _⟩
  case round =>
    obtain ⟨k, hk, rfl, HO, HB⟩ := hrel
    have hpl := keptTo_len L k
    have hbs := HB.out.size
    by_cases hlt : k < L.length
    · have hck : wr.cell? ⟨w.heap.size, k, none⟩ = some (.string (atL L k)) := by rw [(bcell HB.out).1 _ _ hz1']; exact HC1.out k hlt
      have k0 : (0 : Int) ≤ k := by omega
      have k1 : (k : Int) < L.length := by omega
      have KR0 := ruleRight_any (atL L k) wr (HG.out.on (HB1.out.trans (HB.out.mono HB1.out.size))) (by have := HZ.out k hlt; omega)
      cases hr : ruleB (atL L k) with
      | false =>
        have HP : Hid (keptTo L (k + 1) = keptTo L k) := by show _ = _; rw [keptTo, if_neg (by rw [hr]; decide)]
        rw [hr] at KR0
        have KR : Hid (Calls Tryd.prog 20 #[.string (atL L k)] wr fun e w' => e = .returned (.bool false) ∧ Below wr.heap.size wr w') := KR0
        clear KR0 hr
        generalize atL L k = t at *
        go_wp2_with (go_at_call 20; refine KR.out.mono ?_; rintro e w2 ⟨rfl, hb2⟩)
        go_roundw
        case rel => exact ⟨k + 1, by omega, by go_num, by rw [HP.out]; exact own_below HO.out hb2, HB.out.trans (hb2.mono HB.out.size)⟩
        case measure => simp [intOf]; omega
      | true =>
        have HP : Hid (keptTo L (k + 1) = keptTo L k ++ [atL L k]) := by show _ = _; rw [keptTo, if_pos hr]
        rw [hr] at KR0
        have KR : Hid (Calls Tryd.prog 20 #[.string (atL L k)] wr fun e w' => e = .returned (.bool true) ∧ Below wr.heap.size wr w') := KR0
        have KT : Hid (∀ W, Calls Tryd.prog 51 #[.string (atL L k), .string ⟨#[]⟩] W fun e w' => e = .returned (.string (atL L k)) ∧ Below W.heap.size W w') := fun W => together_empty (atL L k) W (by have := HZ.out k hlt; omega)
        clear KR0 hr
        generalize hx : atL L k = t at *
        have HX : Hid (atL L k = t) := hx
        clear hx
        go_wp2_with (go_at_call 20; refine KR.out.mono ?_; rintro e w2 ⟨rfl, hb2⟩)
        refine (KT.out _).mono ?_
        rintro e w3 ⟨rfl, hb3⟩
        have O3 : Hid (w3.ownsRow w1.heap.size 9 1 u3 (keptTo L k).length (strCells (keptTo L k))) := own_below (own_below HO.out hb2) hb3
        have B3 : Hid (Below w1.heap.size w1 w3) := (HB.out.trans (hb2.mono HB.out.size)).trans (hb3.mono (Nat.le_trans HB.out.size hb2.size))
        have hz3 := B3.out.size
        clear hb2 hb3
        go_wp2_with (at_builtin; go_must (refine wpList_append_own _ rfl _ _ 23 rfl w1.heap.size 9 i0 (.string ⟨#[]⟩) 1 16 Tryd.underlying23 hi hz0 hz1 hz2 rfl (by decide) _ _ _ rfl (O3.out.alloc _) ⟨w3.heap.size, 0, none⟩ 1 1 [.string t] rfl rfl (cell_one_new _ _ _) (by intro u hu; simp at hu; subst hu; rfl) (by unfold maxLen; omega) (by omega) (by simp; omega) ?_))
        intro v4 w4 ho4 hg4 _
        rw [strCells_snoc] at ho4
        have G1 : Hid (w4.ownsRow w1.heap.size 9 1 v4 (keptTo L k ++ [t]).length (strCells (keptTo L k ++ [t]))) := by show World.ownsRow _ _ _ _ _ _ _; simpa using ho4
        have G2 : Hid (Below w1.heap.size w1 w4) := (B3.out.alloc hz3 _).grown hg4 (by simp; omega) (fun j hj => (O3.out.lt j hj).1)
        clear ho4 hg4
        go_wp2
        go_roundw
        case rel => exact ⟨k + 1, by omega, by go_num, by rw [HP.out]; exact G1, G2⟩
        case measure => simp [intOf]; omega
    · obtain rfl : k = L.length := by omega
      have B0 : Hid (Below w.heap.size w wr) := HB1.out.trans (HB.out.mono HB1.out.size)
      generalize keptTo L L.length = K at *
      have HE2 : Hid (RR = (onceL (sortL K)).take 20) := by show _ = _; rw [HPO.out]; exact HE.out
      have hol := onceL_len (sortL K)
      rw [sortL_len] at hol
      obtain ⟨hl0, ⟨rfl, h0⟩ | ⟨g, cap, cur, rfl, hbg, hh, hcap, hcm, hcs, htk⟩⟩ := HO.out
      · have hK : K = [] := List.length_eq_zero_iff.1 h0
        have HRR : Hid (RR = []) := by
          show _ = _
          rw [HE2.out]
          have : (onceL (sortL K)).length = 0 := by omega
          rw [List.length_eq_zero_iff.1 this]; rfl
        have KS : Hid (∀ W, Calls Tryd.prog 52 #[.slice none 0 0] W fun e w' => e = .returned (.tuple #[]) ∧ w' = W) := fun W => Any.slices_Sort_string_none Tryd.lays190 none 0 W
        have KC : Hid (∀ W, Calls Tryd.prog 53 #[.slice none 0 0] W fun e w' => e = .returned (.slice none 0 0) ∧ w' = W) := fun W => Any.slices_Compact_string_empty Tryd.lays194 none 0 W
        clear hl0 h0 hK hol HE2 HE HPO
        go_wp2_with (first | (go_at_call 52; refine (KS.out _).mono ?_; rintro e w2 ⟨rfl, rfl⟩) | (go_at_call 53; refine (KC.out _).mono ?_; rintro e w3 ⟨rfl, rfl⟩))
        go_ret
        exact ⟨_, rfl, by rw [HRR.out]; exact ⟨_, _, rfl, fun h => absurd h (by simp)⟩, B0.out⟩
      · have KS : Hid (Calls Tryd.prog 52 #[.slice (some ⟨g, 0, none⟩) K.length cap] wr fun e w' => e = .returned (.tuple #[]) ∧ w'.ownsRow w1.heap.size 9 1 (.slice (some ⟨g, 0, none⟩) K.length cap) K.length (strCells (sortL K)) ∧ wr.grownBy w' (some g)) := sort_call _ g cap K wr HO.out (by omega)
        have KC : Hid (∀ W, W.ownsRow w1.heap.size 9 1 (.slice (some ⟨g, 0, none⟩) K.length cap) K.length (strCells (sortL K)) → Calls Tryd.prog 53 #[.slice (some ⟨g, 0, none⟩) K.length cap] W fun e w' => e = .returned (.slice (some ⟨g, 0, none⟩) (onceL (sortL K)).length cap) ∧ w'.ownsRow w1.heap.size 9 1 (.slice (some ⟨g, 0, none⟩) (onceL (sortL K)).length cap) (onceL (sortL K)).length (strCells (onceL (sortL K))) ∧ (∀ B0 w0, Below B0 w0 W → B0 ≤ g → Below B0 w0 w')) := fun W ho => by
          have h := once_call w1.heap.size g cap (sortL K) W (by rw [sortL_len]; exact ho) (by rw [sortL_len]; omega)
          rw [sortL_len] at h; exact h
        have hwg : w.heap.size ≤ g := by omega
        clear hl0 hh hcs htk HE HPO hcm
        generalize sortL K = K2 at *
        generalize onceL K2 = K3 at *
        go_wp2_with fail
        refine KS.out.mono ?_
        rintro e w2 ⟨rfl, ho2, hg2⟩
        have B2 : Hid (Below w.heap.size w w2) := B0.out.grown hg2 B0.out.size (fun j hj => by obtain rfl := Option.some.inj hj; exact hwg)
        clear hg2
        go_wp2_with fail
        refine (KC.out _ ho2).mono ?_
        rintro e w3 ⟨rfl, ho3, hb3⟩
        have B3 : Hid (Below w.heap.size w w3) := hb3 _ _ B2.out hwg
        have S3 : Hid (SliceS w3 w.heap.size (.slice (some ⟨g, 0, none⟩) K3.length cap) K3.length (atL K3)) := slice_base (slice_of_own ho3) (by omega)
        clear hb3 ho2 ho3
        have G : Hid (SliceS w3 w.heap.size (.slice (some ⟨g, 0, none⟩) (min (K3.length : Int) 20).toNat cap) RR.length (atL RR)) := by
          show SliceS _ _ _ _ _
          have e1 : RR = K3.take 20 := HE2.out
          have e2 : RR.length = min 20 K3.length := by rw [e1, List.length_take]
          have e3 : (min (K3.length : Int) 20).toNat = RR.length := by omega
          rw [e3]
          refine ⟨_, _, rfl, fun hn => ?_⟩
          obtain ⟨p', c', e', hg'⟩ := S3.out
          obtain ⟨g', rfl, hB', hlt', hc⟩ := hg' (by omega)
          obtain rfl : g = g' := by injection e' with a; injection a with a; injection a
          refine ⟨g, rfl, hB', hlt', fun j hj => ?_⟩
          have e4 : atL RR j = atL K3 j := by rw [e1]; simp [atL, show j < 20 by omega]
          rw [e4]; exact hc j (by omega)
        go_wp2
        go_ret
        exact ⟨_, rfl, G.out, B3.out⟩
end Go.Proofs.YtddlnbmkknbegaaDoor
