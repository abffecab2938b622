/- The walk of the specification's UrlRead. -/
import Derived.Test.YtknjkakokcblnaaDoorSpecRead
namespace Go.Proofs.YtknjkakokcblnaaDoor
open Go.RowKit

/-- what a UrlOut holds -/
def urlOut (sc ho pa : ByteArray) (po c : Int) : Value := .agg #[.string sc, .string ho, .int .i64 po, .string pa, .int .i64 c]
/-- is there a url in the text, as it stands? -/
def readOk (t : ByteArray) : Bool := !t.toList.isEmpty && ((urlT (readU t).1 (readU t).2.1 (readU t).2.2.2 (readU t).2.2.1).toList == t.toList)

set_option maxRecDepth 10000 in
set_option maxHeartbeats 400000 in
theorem specUrlRead_size (t : ByteArray) (w : World) (h : 8000 < t.size) :
    Calls Tryd.prog 22 #[.string t] w fun e w' => e = .returned (urlOut ⟨#[]⟩ ⟨#[]⟩ ⟨#[]⟩ 0 2) ∧ Below w.heap.size w w' := by
  go_enter Tryd.func22, Tryd.ntmps22
  go_wp2
  exact bodyPost_ret (v := urlOut ⟨#[]⟩ ⟨#[]⟩ ⟨#[]⟩ 0 2) (by simp [urlOut, results, Tryd.results22, go_sem]) rfl ⟨rfl, (Below.refl _ _).alloc (Nat.le_refl _) _⟩

set_option maxRecDepth 10000 in
set_option maxHeartbeats 1000000 in
theorem specUrlRead_more (t : ByteArray) (w : World) (h : t.size ≤ 8000) :
    Calls Tryd.prog 22 #[.string t] w fun e w' => e = .returned (if readOk t = true then urlOut (readU t).1 (readU t).2.1 (readU t).2.2.2 (readU t).2.2.1 0 else urlOut ⟨#[]⟩ ⟨#[]⟩ ⟨#[]⟩ 0 3) ∧ Below w.heap.size w w' := by
  have H1 := fun W => specRead_any t W h
  have H2 := fun W => specUrlText_any (readU t).1 (readU t).2.1 (readU t).2.2.2 (readU t).2.2.1 W
  have HO : Hid (readOk t = (!t.toList.isEmpty && ((urlT (readU t).1 (readU t).2.1 (readU t).2.2.2 (readU t).2.2.1).toList == t.toList))) := rfl
  generalize urlT (readU t).1 (readU t).2.1 (readU t).2.2.2 (readU t).2.2.1 = x at *
  generalize readU t = r at *
  obtain ⟨sc, ho, po, pa⟩ := r
  unfold urlV at H1 H2
  have G1 : Hid (∀ W, Calls Tryd.prog 59 #[.string t] W fun e w' => e = .returned (.agg #[.string sc, .string ho, .int .i64 po, .string pa]) ∧ Below W.heap.size W w') := H1
  have G2 : Hid (∀ W, Calls Tryd.prog 19 #[.agg #[.string sc, .string ho, .int .i64 po, .string pa]] W fun e w' => e = .returned (.string x) ∧ Below W.heap.size W w') := H2
  clear H1 H2
  show Calls _ _ _ _ fun e w' => e = .returned (if readOk t = true then urlOut sc ho pa po 0 else urlOut ⟨#[]⟩ ⟨#[]⟩ ⟨#[]⟩ 0 3) ∧ _
  cases hemp : t.toList.isEmpty with
  | true =>
    have HF : Hid (¬ readOk t = true) := by show ¬ _; rw [HO.out, hemp]; simp
    rw [if_neg HF.out]
    go_enter Tryd.func22, Tryd.ntmps22
    go_wp2_with fail
    refine (G1.out _).mono ?_
    rintro e w1 ⟨rfl, hb⟩
    have hz1 : w.heap.size < w1.heap.size := by have := hb.size; simp at this; omega
    have HC : Hid (∀ o, w1.cell? ⟨w.heap.size, o, none⟩ = (w.alloc (.cells #[.string ⟨#[]⟩, .string ⟨#[]⟩, .int .i64 0, .string ⟨#[]⟩, .int .i64 0] 39)).cell? ⟨w.heap.size, o, none⟩) := fun o => (bcell hb).1 _ _ (by simp)
    have hf0 : ∀ o, w1.frozen? ⟨w.heap.size, o, none⟩ = false := by intro o; rw [(bcell hb).2 _ _ (by simp)]; simp
    have hc0 : w1.cell? ⟨w.heap.size, 0, none⟩ = some (.string ⟨#[]⟩) := by rw [HC.out]; simp
    have hc1 : w1.cell? ⟨w.heap.size, 1, none⟩ = some (.string ⟨#[]⟩) := by rw [HC.out]; simp
    have hc2 : w1.cell? ⟨w.heap.size, 2, none⟩ = some (.int .i64 0) := by rw [HC.out]; simp
    have hc3 : w1.cell? ⟨w.heap.size, 3, none⟩ = some (.string ⟨#[]⟩) := by rw [HC.out]; simp
    have hc4 : w1.cell? ⟨w.heap.size, 4, none⟩ = some (.int .i64 0) := by rw [HC.out]; simp
    have HB : Hid (Below w.heap.size w w1) := ((Below.refl _ _).alloc (Nat.le_refl _) _).trans (hb.mono (by simp))
    clear hb
    go_wp2
    refine bodyPost_ret (v := urlOut ⟨#[]⟩ ⟨#[]⟩ ⟨#[]⟩ 0 3) (by simp [urlOut, results, Tryd.results22, go_sem, hc0, hc1, hc2, hc3, hc4, hz1]) rfl ⟨rfl, ?_⟩
    exact (Below.setCell (Below.setCell (Below.setCell (Below.setCell (Below.setCell HB.out (Nat.le_refl _) _) (Nat.le_refl _) _) (Nat.le_refl _) _) (Nat.le_refl _) _) (Nat.le_refl _) _).alloc (by simp; omega) _
  | false =>
    cases heq : (x.toList == t.toList) with
    | false =>
      have HF : Hid (¬ readOk t = true) := by show ¬ _; rw [HO.out, heq]; simp
      rw [if_neg HF.out]
      go_enter Tryd.func22, Tryd.ntmps22
      go_wp2_with fail
      refine (G1.out _).mono ?_
      rintro e w1 ⟨rfl, hb⟩
      have hz1 : w.heap.size < w1.heap.size := by have := hb.size; simp at this; omega
      have HB : Hid (Below w.heap.size w w1) := ((Below.refl _ _).alloc (Nat.le_refl _) _).trans (hb.mono (by simp))
      go_wp2_with fail
      refine (G2.out _).mono ?_
      rintro e w2 ⟨rfl, hb2⟩
      have hz2 : w1.heap.size < w2.heap.size := by have := hb2.size; simp at this; omega
      have HC : Hid (∀ o, w2.cell? ⟨w.heap.size, o, none⟩ = (w.alloc (.cells #[.string ⟨#[]⟩, .string ⟨#[]⟩, .int .i64 0, .string ⟨#[]⟩, .int .i64 0] 39)).cell? ⟨w.heap.size, o, none⟩) := fun o => by
        show _ = _
        rw [(bcell hb2).1 _ _ (by simp; omega), World.cell?_alloc_lt _ _ ⟨w.heap.size, o, none⟩ hz1, (bcell hb).1 _ _ (by simp)]
      have hf0 : ∀ o, w2.frozen? ⟨w.heap.size, o, none⟩ = false := by
        intro o
        rw [(bcell hb2).2 _ _ (by simp; omega), World.frozen?_alloc_old _ _ ⟨w.heap.size, o, none⟩ (Nat.ne_of_lt hz1), (bcell hb).2 _ _ (by simp)]; simp
      have hc0 : w2.cell? ⟨w.heap.size, 0, none⟩ = some (.string ⟨#[]⟩) := by rw [HC.out]; simp
      have hc1 : w2.cell? ⟨w.heap.size, 1, none⟩ = some (.string ⟨#[]⟩) := by rw [HC.out]; simp
      have hc2 : w2.cell? ⟨w.heap.size, 2, none⟩ = some (.int .i64 0) := by rw [HC.out]; simp
      have hc3 : w2.cell? ⟨w.heap.size, 3, none⟩ = some (.string ⟨#[]⟩) := by rw [HC.out]; simp
      have hc4 : w2.cell? ⟨w.heap.size, 4, none⟩ = some (.int .i64 0) := by rw [HC.out]; simp
      have hu0 : w2.cell? ⟨w1.heap.size, 0, none⟩ = some (.string sc) := by rw [(bcell hb2).1 _ _ (by simp)]; simp
      have hu1 : w2.cell? ⟨w1.heap.size, 1, none⟩ = some (.string ho) := by rw [(bcell hb2).1 _ _ (by simp)]; simp
      have hu2 : w2.cell? ⟨w1.heap.size, 2, none⟩ = some (.int .i64 po) := by rw [(bcell hb2).1 _ _ (by simp)]; simp
      have hu3 : w2.cell? ⟨w1.heap.size, 3, none⟩ = some (.string pa) := by rw [(bcell hb2).1 _ _ (by simp)]; simp
      have HB2 : Hid (Below w.heap.size w w2) := (HB.out.alloc (by omega) _).trans (hb2.mono (by simp; omega))
      clear hb hb2
      go_wp2
      refine bodyPost_ret (v := urlOut ⟨#[]⟩ ⟨#[]⟩ ⟨#[]⟩ 0 3) (by simp [urlOut, results, Tryd.results22, go_sem, hc0, hc1, hc2, hc3, hc4]) rfl ⟨rfl, ?_⟩
      exact Below.setCell (Below.setCell (Below.setCell (Below.setCell (Below.setCell HB2.out (Nat.le_refl _) _) (Nat.le_refl _) _) (Nat.le_refl _) _) (Nat.le_refl _) _) (Nat.le_refl _) _
    | true =>
      have HF : Hid (readOk t = true) := by show _ = _; rw [HO.out, hemp, heq]; simp
      rw [if_pos HF.out]
      go_enter Tryd.func22, Tryd.ntmps22
      go_wp2_with fail
      refine (G1.out _).mono ?_
      rintro e w1 ⟨rfl, hb⟩
      have hz1 : w.heap.size < w1.heap.size := by have := hb.size; simp at this; omega
      have HB : Hid (Below w.heap.size w w1) := ((Below.refl _ _).alloc (Nat.le_refl _) _).trans (hb.mono (by simp))
      go_wp2_with fail
      refine (G2.out _).mono ?_
      rintro e w2 ⟨rfl, hb2⟩
      have hz2 : w1.heap.size < w2.heap.size := by have := hb2.size; simp at this; omega
      have HC : Hid (∀ o, w2.cell? ⟨w.heap.size, o, none⟩ = (w.alloc (.cells #[.string ⟨#[]⟩, .string ⟨#[]⟩, .int .i64 0, .string ⟨#[]⟩, .int .i64 0] 39)).cell? ⟨w.heap.size, o, none⟩) := fun o => by
        show _ = _
        rw [(bcell hb2).1 _ _ (by simp; omega), World.cell?_alloc_lt _ _ ⟨w.heap.size, o, none⟩ hz1, (bcell hb).1 _ _ (by simp)]
      have hf0 : ∀ o, w2.frozen? ⟨w.heap.size, o, none⟩ = false := by
        intro o
        rw [(bcell hb2).2 _ _ (by simp; omega), World.frozen?_alloc_old _ _ ⟨w.heap.size, o, none⟩ (Nat.ne_of_lt hz1), (bcell hb).2 _ _ (by simp)]; simp
      have hc0 : w2.cell? ⟨w.heap.size, 0, none⟩ = some (.string ⟨#[]⟩) := by rw [HC.out]; simp
      have hc1 : w2.cell? ⟨w.heap.size, 1, none⟩ = some (.string ⟨#[]⟩) := by rw [HC.out]; simp
      have hc2 : w2.cell? ⟨w.heap.size, 2, none⟩ = some (.int .i64 0) := by rw [HC.out]; simp
      have hc3 : w2.cell? ⟨w.heap.size, 3, none⟩ = some (.string ⟨#[]⟩) := by rw [HC.out]; simp
      have hc4 : w2.cell? ⟨w.heap.size, 4, none⟩ = some (.int .i64 0) := by rw [HC.out]; simp
      have hu0 : w2.cell? ⟨w1.heap.size, 0, none⟩ = some (.string sc) := by rw [(bcell hb2).1 _ _ (by simp)]; simp
      have hu1 : w2.cell? ⟨w1.heap.size, 1, none⟩ = some (.string ho) := by rw [(bcell hb2).1 _ _ (by simp)]; simp
      have hu2 : w2.cell? ⟨w1.heap.size, 2, none⟩ = some (.int .i64 po) := by rw [(bcell hb2).1 _ _ (by simp)]; simp
      have hu3 : w2.cell? ⟨w1.heap.size, 3, none⟩ = some (.string pa) := by rw [(bcell hb2).1 _ _ (by simp)]; simp
      have HB2 : Hid (Below w.heap.size w w2) := (HB.out.alloc (by omega) _).trans (hb2.mono (by simp; omega))
      clear hb hb2
      go_wp2
      refine bodyPost_ret (v := urlOut sc ho pa po 0) (by simp [urlOut, results, Tryd.results22, go_sem, hc0, hc1, hc2, hc3, hc4]) rfl ⟨rfl, ?_⟩
      exact Below.setCell (Below.setCell (Below.setCell (Below.setCell (Below.setCell HB2.out (Nat.le_refl _) _) (Nat.le_refl _) _) (Nat.le_refl _) _) (Nat.le_refl _) _) (Nat.le_refl _) _
end Go.Proofs.YtknjkakokcblnaaDoor
