/- The walk of the program's longestFit. -/
import Derived.Test.YtmlacbjlafdenaaDoorFitBack
import Derived.Deep.LoopGhost
namespace Go.Proofs.YtmlacbjlafdenaaDoor
open Go.RowKit

set_option maxRecDepth 10000 in
set_option maxHeartbeats 2000000 in
theorem longest_any (v1 v2 : Value) (B1 B2 m : Nat) (L : List ByteArray) (h : Nat → ByteArray) (w : World) (hG : MaxI w) (h1 : SliceS w B1 v1 L.length (atL L)) (h2 : SliceS w B2 v2 m h) (l1 : L.length ≤ 1048576) (l2 : m ≤ 1048576) (hL : ∀ x ∈ L, x.size ≤ 1048576) :
    Calls Tryd.prog 120 #[v1, v2] w fun e w' => e = .returned (.int .i64 (longN L m h : Nat)) ∧ Below w.heap.size w w' := by
  have H2 : Hid (SliceS w B2 v2 m h) := h2
  obtain ⟨p1, c1, rfl, g1⟩ := h1
  have G1 : Hid (0 < L.length → ∃ g, p1 = some ⟨g, 0, none⟩ ∧ B1 ≤ g ∧ g < w.heap.size ∧ ∀ j, j < L.length → w.cell? ⟨g, j, none⟩ = some (.string (atL L j)) ∧ w.frozen? ⟨g, j, none⟩ = false) := g1
  obtain ⟨p2, c2, rfl, -⟩ := h2
  have HG : Hid (MaxI w) := hG
  have HH : Hid (∀ k r, (∀ j, j < k → ∀ x ∈ L, fitK x j m h = false) → r ∈ L → fitK r k m h = true → longN L m h = k) := fun k r a b c => longN_hit a b c
  have HN : Hid ((∀ j, j < m → ∀ x ∈ L, fitK x j m h = false) → longN L m h = m) := fun a => longN_none a
  have HM : Hid (∀ i, i < L.length → atL L i ∈ L) := fun i hi => by
    have : atL L i = L[i] := by simp [atL, hi]
    rw [this]; exact List.getElem_mem hi
  have HI : Hid (∀ x ∈ L, ∃ i, i < L.length ∧ x = atL L i) := fun x hx => by
    obtain ⟨i, hi, e⟩ := List.getElem_of_mem hx
    exact ⟨i, hi, by simp [atL, hi, e]⟩
  have HF : Hid (∀ (i k b : Nat) (W : World), i < L.length → k ≤ m → MaxI W → b < W.heap.size → W.cell? ⟨b, 0, none⟩ = some (.slice p2 m c2) → SliceS W B2 (.slice p2 m c2) m h →
      Calls Tryd.prog 140 #[.string (atL L i), .int .i64 k, .pointer (some ⟨b, 0, none⟩)] W fun e w' => e = .returned (.bool (fitK (atL L i) k m h)) ∧ Below W.heap.size W w') :=
    fun i k b W hi hk hM hb hc hs => fit_any (atL L i) k m b B2 _ h W hM (hL _ (HM.out i hi)) hb hc hs hk l2
  have hmf : ∀ (fn : Fn) (first cap : Array Value) (w : World), (Instr.makeFunc fn first cap).run Tryd.prog w = .ok (.func fn first cap) w := fun _ _ _ _ => rfl
  clear g1 hG hL
  generalize longN L m h = R at *
  generalize atL L = f at *
  go_enter Tryd.func120, Tryd.ntmps120
  go_wp2
  go_step3
  go_wp2
  go_step3
  go_wp2
  have hb0 : Below w.heap.size w (w.alloc (.cells #[.slice p2 m c2] 43)) := (Below.refl _ _).alloc (Nat.le_refl _) _
  have hz0 : w.heap.size < (w.alloc (.cells #[.slice p2 m c2] 43)).heap.size := by simp
  have hc0 : (w.alloc (.cells #[.slice p2 m c2] 43)).cell? ⟨w.heap.size, 0, none⟩ = some (.slice p2 m c2) := by simp
  have HB0 : Hid (Below w.heap.size w (w.alloc (.cells #[.slice p2 m c2] 43))) := hb0
  clear hb0
  generalize w.alloc (.cells #[.slice p2 m c2] 43) = w0 at *
  go_loopg [6, 15] m (fun g s6 s15 wx => ∃ k : Nat, k + g = m ∧ s6 = .int .i64 m ∧ s15 = .int .i64 k ∧ Hid (Below w0.heap.size w0 wx) ∧ Hid (∀ j, j < k → ∀ x ∈ L, fitK x j m h = false))
  case atStart => exact ⟨0, by omega, rfl, rfl, Below.refl _ _, fun j hj => absurd hj (by omega)⟩
  case round =>
    obtain ⟨k, hkg, rfl, rfl, HB, HK⟩ := hrel
    cases gk with
    | zero =>
      have hkz : ¬ ((k : Int) < (m : Int)) := by omega
      have HQ : Hid (R = m) := HN.out (fun j hj => HK.out j (by omega))
      go_wp2
      try rw [Exit.noGoto_ret]
      go_ret
      exact ⟨ret_int (by rw [HQ.out]), HB0.out.trans (HB.out.mono HB0.out.size)⟩
    | succ g =>
      have hkz : (k : Int) < (m : Int) := by omega
      go_wp2
      go_loopg [6, 20] L.length (fun g2 s6 s20 wy => ∃ i : Nat, i + g2 = L.length ∧ s6 = .int .i64 m ∧ s20 = .int .i64 i ∧ Hid (Below w0.heap.size w0 wy) ∧ Hid (∀ j, j < i → fitK (f j) k m h = false))
      case atStart => exact ⟨0, by omega, rfl, rfl, HB, fun j hj => absurd hj (by omega)⟩
      case round =>
        obtain ⟨i, hig, rfl, rfl, HB2, HJ⟩ := hrel
        cases gk with
        | zero =>
          have hiz : ¬ ((i : Int) < (L.length : Int)) := by omega
          go_wp2
          go_roundg g
          case measure => omega
          case rel =>
            refine ⟨k + 1, by omega, rfl, by go_num, HB2, ?_⟩
            intro j hj x hx
            by_cases e : j = k
            · subst e
              obtain ⟨i', hi', rfl⟩ := HI.out x hx
              exact HJ.out i' (by omega)
            · exact HK.out j (by omega) x hx
        | succ g2 =>
          have hiz : (i : Int) < (L.length : Int) := by omega
          have hiz0 : (0 : Int) ≤ (i : Int) := by omega
          obtain ⟨g1, rfl, -, hg1, hc1⟩ := G1.out (by omega)
          have B2' : Below w.heap.size w wr := HB0.out.trans (HB2.out.mono HB0.out.size)
          have d1 : wr.cell? ⟨g1, i, none⟩ = some (.string (f i)) := by rw [(bcell B2').1 _ _ hg1]; exact (hc1 i (by omega)).1
          have d2 : wr.cell? ⟨w.heap.size, 0, none⟩ = some (.slice p2 m c2) := by rw [(bcell HB2.out).1 _ _ hz0]; exact hc0
          have KF0 := HF.out i k w.heap.size wr (by omega) (by omega) (HG.out.on B2') (by have := HB2.out.size; omega) d2 (H2.out.below B2')
          clear hc1 B2'
          cases hfit : fitK (f i) k m h with
          | true =>
            have HQ : Hid (R = k) := HH.out k (f i) HK.out (HM.out i (by omega)) hfit
            rw [hfit] at KF0
            have KF : Hid (Calls Tryd.prog 140 #[.string (f i), .int .i64 k, .pointer (some ⟨w.heap.size, 0, none⟩)] wr fun e w' => e = .returned (.bool true) ∧ Below wr.heap.size wr w') := KF0
            clear KF0 hfit
            generalize f i = t at *
            go_wp2_with (go_at_call 140; refine KF.out.mono ?_; rintro e w3 ⟨rfl, hb3⟩)
            try rw [Exit.noGoto_ret]
            go_ret
            exact ⟨ret_int (by rw [HQ.out]), HB0.out.trans ((HB2.out.trans (hb3.mono HB2.out.size)).mono HB0.out.size)⟩
          | false =>
            have HQ : Hid (fitK (f i) k m h = false) := hfit
            rw [hfit] at KF0
            have KF : Hid (Calls Tryd.prog 140 #[.string (f i), .int .i64 k, .pointer (some ⟨w.heap.size, 0, none⟩)] wr fun e w' => e = .returned (.bool false) ∧ Below wr.heap.size wr w') := KF0
            clear KF0 hfit
            generalize hx : f i = t at *
            have HX : Hid (f i = t) := hx
            clear hx
            go_wp2_with (go_at_call 140; refine KF.out.mono ?_; rintro e w3 ⟨rfl, hb3⟩)
            go_roundg g2
            case measure => omega
            case rel =>
              refine ⟨i + 1, by omega, rfl, by go_num, HB2.out.trans (hb3.mono HB2.out.size), ?_⟩
              intro j hj
              by_cases e : j = i
              · subst e; rw [HX.out]; exact HQ.out
              · exact HJ.out j (by omega)
end Go.Proofs.YtmlacbjlafdenaaDoor
