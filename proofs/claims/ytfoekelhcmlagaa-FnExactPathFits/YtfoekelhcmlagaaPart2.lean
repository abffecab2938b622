/- 2 of this claim's texts, one behind the other. -/
import Derived.Test.YtfoekelhcmlagaaPart1
import Derived.Test.YtfoekelhcmlagaaShelf
/- The walk of the program's PathFits. -/
namespace Go.Proofs.Ytfoekelhcmlagaa
open Go.RowKit

theorem fitP_prog {p q : ByteArray} (hq : 0 < q.size) (h : Lib.hasPrefix p.data.toList q.data.toList = true) :
    fitP p q = ((p.extract q.size p.size).toList.isEmpty || Lib.hasSuffix q.data.toList [47] || Lib.hasPrefix (p.extract q.size p.size).data.toList [47]) := by
  have l := pre_le h
  rw [fitP_yes h, rest_empty l, rest_slash l, ← byteI_suffix hq]

set_option maxRecDepth 10000 in
set_option maxHeartbeats 1000000 in
theorem pathFits_any (p q : ByteArray) (w : World) :
    Calls Try.prog 5 #[.string p, .string q] w fun e w' => e = .returned (.bool (pathF p q)) ∧ Below w.heap.size w w' := by
  have K1 : Hid (∀ W, Calls Try.prog 8 #[.string p] W fun e w' => e = .returned (.bool (pathB p)) ∧ Below W.heap.size W w') := fun W => pathRight_any p W
  have K2 : Hid (∀ W, Calls Try.prog 8 #[.string q] W fun e w' => e = .returned (.bool (pathB q)) ∧ Below W.heap.size W w') := fun W => pathRight_any q W
  have K3 : Hid (∀ W, Calls Try.prog 9 #[.string p, .string q] W fun e w' => e = .returned (.tuple #[.string ⟨(Lib.trimPrefix p.data.toList q.data.toList).toArray⟩, .bool (Lib.hasPrefix p.data.toList q.data.toList)]) ∧ w' = W) := fun W => Any.strings_CutPrefix Try.lays103 p q W
  have K4 : Hid (pathB q = true → ∀ W, Calls Try.prog 10 #[.string q, .string ⟨#[47]⟩] W fun e w' => e = .returned (.bool (Lib.hasSuffix q.data.toList [47])) ∧ w' = W) := fun a W => Any.strings_HasSuffix Try.lays100 q ⟨#[47]⟩ W (by have := pathB_pos a; omega)
  have K5 : Hid (∀ s W, Calls Try.prog 11 #[.string s, .string ⟨#[47]⟩] W fun e w' => e = .returned (.bool (Lib.hasPrefix s.data.toList [47])) ∧ w' = W) := fun s W => Any.strings_HasPrefix Try.lays99 s ⟨#[47]⟩ W
  have HE : Hid (pathF p q = (pathB p && pathB q && fitP p q)) := rfl
  have HP : Hid (pathB q = true → 0 < q.size) := fun a => (pathB_pos a).1
  have HF : Hid (0 < q.size → Lib.hasPrefix p.data.toList q.data.toList = true → fitP p q = ((p.extract q.size p.size).toList.isEmpty || Lib.hasSuffix q.data.toList [47] || Lib.hasPrefix (p.extract q.size p.size).data.toList [47])) := fun a b => fitP_prog a b
  have HN : Hid (Lib.hasPrefix p.data.toList q.data.toList = false → fitP p q = false) := fun a => fitP_no a
  have HT : Hid (Lib.hasPrefix p.data.toList q.data.toList = true → (⟨(Lib.trimPrefix p.data.toList q.data.toList).toArray⟩ : ByteArray) = p.extract q.size p.size) := fun a => trim_rest a
  generalize pathF p q = R at *
  generalize pathB p = b1 at *
  generalize pathB q = b2 at *
  generalize fitP p q = b3 at *
  generalize (⟨(Lib.trimPrefix p.data.toList q.data.toList).toArray⟩ : ByteArray) = t at *
  generalize Lib.hasSuffix q.data.toList [47] = b5 at *
  generalize Lib.hasPrefix p.data.toList q.data.toList = b4 at *
  go_enter Try.func5, Try.ntmps5
  go_wp2_with fail
  refine (K1.out _).mono ?_
  rintro e w1 ⟨rfl, hb1⟩
  cases b1 with
  | false =>
    go_wp2
    go_ret
    exact ⟨ret_bool (by rw [HE.out]; rfl), hb1⟩
  | true =>
    go_wp2_with fail
    refine (K2.out _).mono ?_
    rintro e w2 ⟨rfl, hb2⟩
    have B2 : Hid (Below w.heap.size w w2) := hb1.trans (hb2.mono hb1.size)
    clear hb1 hb2
    cases b2 with
    | false =>
      go_wp2
      go_ret
      exact ⟨ret_bool (by rw [HE.out]; rfl), B2.out⟩
    | true =>
      have hq0 := HP.out rfl
      have K4b : Hid (∀ W, Calls Try.prog 10 #[.string q, .string ⟨#[47]⟩] W fun e w' => e = .returned (.bool b5) ∧ w' = W) := K4.out rfl
      clear K4
      go_wp2_with fail
      refine (K3.out _).mono ?_
      rintro e w3 ⟨rfl, rfl⟩
      cases b4 with
      | false =>
        have HZ : Hid (R = false) := by show _ = _; rw [HE.out, HN.out rfl]; rfl
        go_wp2
        go_ret
        exact ⟨ret_bool HZ.out.symm, B2.out⟩
      | true =>
        have HF2 := HF.out hq0 rfl
        rw [← HT.out rfl] at HF2
        have HZ : Hid (R = (t.toList.isEmpty || b5 || Lib.hasPrefix t.data.toList [47])) := by show _ = _; rw [HE.out, HF2]; rfl
        have K6 : Hid (∀ W, Calls Try.prog 11 #[.string t, .string ⟨#[47]⟩] W fun e w' => e = .returned (.bool (Lib.hasPrefix t.data.toList [47])) ∧ w' = W) := K5.out t
        clear HE HF HN HT HF2 K1 K2 K3 K5 HP
        generalize Lib.hasPrefix t.data.toList [47] = b6 at *
        cases he : t.toList.isEmpty with
        | true =>
          go_wp2
          go_ret
          exact ⟨ret_bool (by rw [HZ.out, he]; rfl), B2.out⟩
        | false =>
          go_wp2_with fail
          refine (K4b.out _).mono ?_
          rintro e w4 ⟨rfl, rfl⟩
          cases b5 with
          | true =>
            go_wp2
            go_ret
            exact ⟨ret_bool (by rw [HZ.out, he]; rfl), B2.out⟩
          | false =>
            go_wp2_with fail
            refine (K6.out _).mono ?_
            rintro e w5 ⟨rfl, rfl⟩
            go_wp2
            go_ret
            exact ⟨ret_bool (by rw [HZ.out, he]; rfl), B2.out⟩
end Go.Proofs.Ytfoekelhcmlagaa

/- The law FnExactPathFits, walked. -/
namespace Go.Proofs.Ytfoekelhcmlagaa
open Go.RowKit

set_option maxRecDepth 10000 in
set_option maxHeartbeats 1000000 in
theorem lawPathFits_any (h d : ByteArray) (w : World) :
    Calls Try.prog 3 #[.string h, .string d] w fun e w' => e = .returned (.bool true) ∧ Below w.heap.size w w' := by
  by_cases h1 : 1048576 < h.size
  · go_enter Try.func3, Try.ntmps3
    go_wp2
    go_ret
    exact ⟨rfl, Below.refl _ _⟩
  have q1 : decide ((1048576 : Int) < (h.size : Int)) = false := by rw [decide_eq_false_iff_not]; omega
  by_cases h2 : 1048576 < d.size
  · go_enter Try.func3, Try.ntmps3
    go_wp2
    go_ret
    exact ⟨rfl, Below.refl _ _⟩
  have q2 : decide ((1048576 : Int) < (d.size : Int)) = false := by rw [decide_eq_false_iff_not]; omega
  have H1 : Hid (∀ W, Calls Try.prog 4 #[.string h, .string d] W fun e w' => e = .returned (.bool (pathF h d)) ∧ w' = W) := fun W => specPathFits_any h d W
  have H2 : Hid (∀ W, Calls Try.prog 5 #[.string h, .string d] W fun e w' => e = .returned (.bool (pathF h d)) ∧ Below W.heap.size W w') := fun W => pathFits_any h d W
  generalize pathF h d = b at *
  go_enter Try.func3, Try.ntmps3
  go_wp2_with fail
  refine (H1.out _).mono ?_
  rintro e w1 ⟨rfl, rfl⟩
  go_wp2_with fail
  refine (H2.out _).mono ?_
  rintro e w2 ⟨rfl, hb2⟩
  go_wp2
  go_ret
  exact ⟨rfl, hb2⟩
end Go.Proofs.Ytfoekelhcmlagaa
