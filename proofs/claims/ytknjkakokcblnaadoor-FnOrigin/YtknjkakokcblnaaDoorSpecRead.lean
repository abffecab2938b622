/- The walk of the specification's l02Read and UrlRead. -/
import Derived.Test.YtknjkakokcblnaaDoorSpecFind
import Derived.Test.YtknjkakokcblnaaDoorSpecUrlText
import Derived.Laws.ResultCell
namespace Go.Proofs.YtknjkakokcblnaaDoor
open Go.RowKit

theorem findI_cases (t x : ByteArray) : (findI t x = -1 ∧ findN t x = none) ∨ ∃ k : Nat, findI t x = k ∧ findN t x = some k ∧ k + x.size ≤ t.size := by
  unfold findI
  cases h : findN t x with
  | none => exact .inl ⟨rfl, rfl⟩
  | some k => exact .inr ⟨k, rfl, rfl, (findTo_lt h).2.1⟩

/-- a url as it stands in a text, whatever it is -/
def readU (t : ByteArray) : ByteArray × ByteArray × Int × ByteArray :=
  match findN t ⟨#[58, 47, 47]⟩ with
  | none => (⟨#[]⟩, ⟨#[]⟩, 0, ⟨#[]⟩)
  | some k =>
    match findN (t.extract (k + 3) t.size) ⟨#[47]⟩ with
    | none => (t.extract 0 k, ⟨#[]⟩, 0, ⟨#[]⟩)
    | some m =>
      match findN ((t.extract (k + 3) t.size).extract 0 m) ⟨#[58]⟩ with
      | none => (t.extract 0 k, (t.extract (k + 3) t.size).extract 0 m, usualP (t.extract 0 k), (t.extract (k + 3) t.size).extract m (t.extract (k + 3) t.size).size)
      | some c => (t.extract 0 k, ((t.extract (k + 3) t.size).extract 0 m).extract 0 c, numI (((t.extract (k + 3) t.size).extract 0 m).extract (c + 1) ((t.extract (k + 3) t.size).extract 0 m).size), (t.extract (k + 3) t.size).extract m (t.extract (k + 3) t.size).size)

set_option maxRecDepth 10000 in
set_option maxHeartbeats 1000000 in
theorem specRead_any (t : ByteArray) (w : World) (ht : t.size ≤ 8000) :
    Calls Tryd.prog 59 #[.string t] w fun e w' => e = .returned (urlV (readU t).1 (readU t).2.1 (readU t).2.2.2 (readU t).2.2.1) ∧ Below w.heap.size w w' := by
  have H1 := fun W => specFind_any t ⟨#[58, 47, 47]⟩ W (by omega) (by decide)
  rcases findI_cases t ⟨#[58, 47, 47]⟩ with ⟨hi, hn⟩ | ⟨k, hi, hn, hk⟩
  · rw [hi] at H1
    have HR : Hid (readU t = (⟨#[]⟩, ⟨#[]⟩, 0, ⟨#[]⟩)) := by show _ = _; rw [readU, hn]
    have G1 : Hid (∀ W, Calls Tryd.prog 77 #[.string t, .int .i64 0, .string ⟨#[58, 47, 47]⟩] W fun e w' => e = .returned (.int .i64 (-1)) ∧ w' = W) := H1
    clear H1 hi hn
    rw [HR.out]
    go_enter Tryd.func59, Tryd.ntmps59
    go_wp2_with (go_at_call 77; refine (G1.out _).mono ?_; rintro e w1 ⟨rfl, rfl⟩)
    exact bodyPost_ret (v := urlV ⟨#[]⟩ ⟨#[]⟩ ⟨#[]⟩ 0) (by simp [urlV, results, Tryd.results59, go_sem]) rfl ⟨rfl, (Below.refl _ _).alloc (Nat.le_refl _) _⟩
  rw [hi] at H1
  have hk3 : k + 3 ≤ t.size := hk
  have H2 := fun W => specFind_any (t.extract (k + 3) t.size) ⟨#[47]⟩ W (by simp; omega) (by decide)
  have G1 : Hid (∀ W, Calls Tryd.prog 77 #[.string t, .int .i64 0, .string ⟨#[58, 47, 47]⟩] W fun e w' => e = .returned (.int .i64 k) ∧ w' = W) := H1
  have HN1 : Hid (findN t ⟨#[58, 47, 47]⟩ = some k) := hn
  clear H1 hi hn hk
  rcases findI_cases (t.extract (k + 3) t.size) ⟨#[47]⟩ with ⟨hi, hn⟩ | ⟨m, hi, hn, hm⟩
  · rw [hi] at H2
    have HR : Hid (readU t = (t.extract 0 k, ⟨#[]⟩, 0, ⟨#[]⟩)) := by show _ = _; rw [readU, HN1.out]; simp only; rw [hn]
    have G2 : Hid (∀ W, Calls Tryd.prog 77 #[.string (t.extract (k + 3) t.size), .int .i64 0, .string ⟨#[47]⟩] W fun e w' => e = .returned (.int .i64 (-1)) ∧ w' = W) := H2
    clear H2 hi hn
    rw [HR.out]
    go_enter Tryd.func59, Tryd.ntmps59
    go_wp2_with fail
    refine (G1.out _).mono ?_
    rintro e w1 ⟨rfl, rfl⟩
    go_wp2_with fail
    refine (G2.out _).mono ?_
    rintro e w1 ⟨rfl, rfl⟩
    go_wp2
    exact bodyPost_ret (v := urlV (t.extract 0 k) ⟨#[]⟩ ⟨#[]⟩ 0) (by simp [urlV, results, Tryd.results59, go_sem]) rfl ⟨rfl, ((Below.refl _ _).alloc (Nat.le_refl _) _).alloc (by simp) _⟩
  rw [hi] at H2
  have hrs : (t.extract (k + 3) t.size).size ≤ 8000 := by simp; omega
  have hms : m ≤ (t.extract (k + 3) t.size).size := by omega
  have G2 : Hid (∀ W, Calls Tryd.prog 77 #[.string (t.extract (k + 3) t.size), .int .i64 0, .string ⟨#[47]⟩] W fun e w' => e = .returned (.int .i64 m) ∧ w' = W) := H2
  have HX : Hid (readU t = match findN ((t.extract (k + 3) t.size).extract 0 m) ⟨#[58]⟩ with
      | none => (t.extract 0 k, (t.extract (k + 3) t.size).extract 0 m, usualP (t.extract 0 k), (t.extract (k + 3) t.size).extract m (t.extract (k + 3) t.size).size)
      | some c => (t.extract 0 k, ((t.extract (k + 3) t.size).extract 0 m).extract 0 c, numI (((t.extract (k + 3) t.size).extract 0 m).extract (c + 1) ((t.extract (k + 3) t.size).extract 0 m).size), (t.extract (k + 3) t.size).extract m (t.extract (k + 3) t.size).size)) := by
    show _ = _
    rw [readU, HN1.out]; simp only; rw [hn]
  have G3 : Hid (∀ W, Calls Tryd.prog 71 #[.string (t.extract 0 k)] W fun e w' => e = .returned (.int .i64 (usualP (t.extract 0 k))) ∧ w' = W) := fun W => specUsual_any _ W
  clear H2 hi hn hm HN1
  generalize hre : t.extract (k + 3) t.size = r at *
  have HRE : Hid (t.extract (k + 3) t.size = r) := hre
  have hsl : ∀ W, Sem.run Tryd.prog (Instr.slice 9 (.string t) (some (.int .i64 ((k : Int) + 3))) none none) W = .ok (.string r) W := by
    intro W
    rw [run_slice_string_from_if (P := Tryd.prog) W 9 t .i64 _ Tryd.underlying9, if_pos (by omega), show ((k : Int) + 3).toNat = k + 3 by omega, hre]
  clear hre
  have hhs : (r.extract 0 m).size ≤ 8000 := by simp; omega
  have H4 := fun W => specFind_any (r.extract 0 m) ⟨#[58]⟩ W (by omega) (by decide)
  generalize usualP (t.extract 0 k) = us at *
  have hsl0 : ∀ W, Sem.run Tryd.prog (Instr.slice 9 (.string t) none (some (.int .i64 (k : Int))) none) W = .ok (.string (t.extract 0 k)) W := by
    intro W
    rw [run_slice_string_to_if (P := Tryd.prog) W 9 t .i64 _ Tryd.underlying9, if_pos (by omega), Int.toNat_natCast]
  generalize t.extract 0 k = sc at *
  rcases findI_cases (r.extract 0 m) ⟨#[58]⟩ with ⟨hi, hn⟩ | ⟨c, hi, hn, hc⟩
  · rw [hi] at H4
    have HR : Hid (readU t = (sc, r.extract 0 m, us, r.extract m r.size)) := by show _ = _; rw [HX.out, hn]
    have G4 : Hid (∀ W, Calls Tryd.prog 77 #[.string (r.extract 0 m), .int .i64 0, .string ⟨#[58]⟩] W fun e w' => e = .returned (.int .i64 (-1)) ∧ w' = W) := H4
    clear H4 hi hn HX
    rw [HR.out]
    go_enter Tryd.func59, Tryd.ntmps59
    go_wp2_with fail
    refine (G1.out _).mono ?_
    rintro e w1 ⟨rfl, rfl⟩
    go_wp2_with fail
    refine (G2.out _).mono ?_
    rintro e w1 ⟨rfl, rfl⟩
    go_wp2_with fail
    refine (G3.out _).mono ?_
    rintro e w1 ⟨rfl, rfl⟩
    go_wp2_with fail
    refine (G4.out _).mono ?_
    rintro e w1 ⟨rfl, rfl⟩
    go_wp2
    exact bodyPost_ret (v := urlV sc (r.extract 0 m) (r.extract m r.size) us) (by simp [urlV, results, Tryd.results59, go_sem]) rfl ⟨rfl, ((Below.refl _ _).alloc (Nat.le_refl _) _).alloc (by simp) _⟩
  rw [hi] at H4
  have hcs : c + 1 ≤ (r.extract 0 m).size := hc
  have hsl2 : ∀ W, Sem.run Tryd.prog (Instr.slice 9 (.string (r.extract 0 m)) (some (.int .i64 ((c : Int) + 1))) none none) W = .ok (.string ((r.extract 0 m).extract (c + 1) (r.extract 0 m).size)) W := by
    intro W
    rw [run_slice_string_from_if (P := Tryd.prog) W 9 _ .i64 _ Tryd.underlying9, if_pos (by omega), show ((c : Int) + 1).toNat = c + 1 by omega]
  have hsl3 : ∀ W, Sem.run Tryd.prog (Instr.slice 9 (.string (r.extract 0 m)) none (some (.int .i64 (c : Int))) none) W = .ok (.string ((r.extract 0 m).extract 0 c)) W := by
    intro W
    rw [run_slice_string_to_if (P := Tryd.prog) W 9 _ .i64 _ Tryd.underlying9, if_pos (by omega), Int.toNat_natCast]
  have HR : Hid (readU t = (sc, (r.extract 0 m).extract 0 c, numI ((r.extract 0 m).extract (c + 1) (r.extract 0 m).size), r.extract m r.size)) := by show _ = _; rw [HX.out, hn]
  have G4 : Hid (∀ W, Calls Tryd.prog 77 #[.string (r.extract 0 m), .int .i64 0, .string ⟨#[58]⟩] W fun e w' => e = .returned (.int .i64 c) ∧ w' = W) := H4
  have G5 : Hid (∀ W, Calls Tryd.prog 78 #[.string ((r.extract 0 m).extract (c + 1) (r.extract 0 m).size)] W fun e w' => e = .returned (.int .i64 (numI ((r.extract 0 m).extract (c + 1) (r.extract 0 m).size))) ∧ w' = W) := fun W => specNum_any _ W
  have hsl1 : ∀ W, Sem.run Tryd.prog (Instr.slice 9 (.string r) none (some (.int .i64 (m : Int))) none) W = .ok (.string (r.extract 0 m)) W := by
    intro W
    rw [run_slice_string_to_if (P := Tryd.prog) W 9 _ .i64 _ Tryd.underlying9, if_pos (by omega), Int.toNat_natCast]
  clear H4 hi hn HX hc
  generalize numI ((r.extract 0 m).extract (c + 1) (r.extract 0 m).size) = po at *
  generalize (r.extract 0 m).extract (c + 1) (r.extract 0 m).size = dg at *
  generalize (r.extract 0 m).extract 0 c = ho at *
  generalize r.extract 0 m = h at *
  rw [HR.out]
  go_enter Tryd.func59, Tryd.ntmps59
  go_wp2_with fail
  refine (G1.out _).mono ?_
  rintro e w1 ⟨rfl, rfl⟩
  go_wp2_with fail
  refine (G2.out _).mono ?_
  rintro e w1 ⟨rfl, rfl⟩
  go_wp2_with fail
  refine (G3.out _).mono ?_
  rintro e w1 ⟨rfl, rfl⟩
  go_wp2_with fail
  refine (G4.out _).mono ?_
  rintro e w1 ⟨rfl, rfl⟩
  go_wp2_with fail
  refine (G5.out _).mono ?_
  rintro e w1 ⟨rfl, rfl⟩
  go_wp2
  exact bodyPost_ret (v := urlV sc ho (r.extract m r.size) po) (by simp [urlV, results, Tryd.results59, go_sem]) rfl ⟨rfl, ((Below.refl _ _).alloc (Nat.le_refl _) _).alloc (by simp) _⟩
end Go.Proofs.YtknjkakokcblnaaDoor
