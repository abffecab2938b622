/- The walk of the program's UrlRead. -/
import Derived.Test.YtknjkakokcblnaaDoorImplParts
import Derived.Test.YtknjkakokcblnaaDoorImplText
import Derived.Test.YtknjkakokcblnaaDoorLawUrlRead
namespace Go.Proofs.YtknjkakokcblnaaDoor
open Go.RowKit

theorem text_same {a b : ByteArray} (h : (a.toList == b.toList) = true) : a = b := by
  rw [beq_iff_eq, ByteArray.toList_eq, ByteArray.toList_eq] at h
  cases a; cases b; congr 1; exact Array.toList_inj.1 h
theorem readV_ok {t sc ho pa : ByteArray} {po : Int} (h : t.size ≤ 8000) (hu : urlB sc ho pa po = true) (ht : ((urlT sc ho pa po).toList == t.toList) = true) : readV t = urlOut sc ho pa po 0 := by
  have e := text_same ht
  have hp := urlT_pos hu
  rw [e] at hp
  obtain ⟨h1, h2⟩ := readOk_of hp e
  rw [readV, if_neg (by omega), if_pos h1, h2]
theorem readV_no {t sc ho pa : ByteArray} {po : Int} (h : t.size ≤ 8000) (hi : IsParts t sc ho po pa) (hn : ¬ (urlB sc ho pa po = true ∧ ((urlT sc ho pa po).toList == t.toList) = true)) : readV t = urlOut ⟨#[]⟩ ⟨#[]⟩ ⟨#[]⟩ 0 3 := by
  rw [readV, if_neg (by omega), if_neg]
  intro hr
  have e := text_of_readOk hr
  have hb : urlB (readU t).1 (readU t).2.1 (readU t).2.2.2 (readU t).2.2.1 = true := by
    cases hu : urlB (readU t).1 (readU t).2.1 (readU t).2.2.2 (readU t).2.2.1 with
    | true => rfl
    | false =>
      rw [urlT, if_neg (by rw [hu]; decide)] at e
      unfold readOk at hr
      rw [← e] at hr
      rw [Bool.and_eq_true] at hr
      exact absurd hr.1 (by rw [ByteArray.toList_eq]; decide)
  obtain ⟨rfl, rfl, rfl, rfl⟩ := hi _ _ _ _ hb e
  exact hn ⟨hb, by rw [e]; simp⟩

/-- the answer's place lies behind what w holds, empty -/
def OutAt (w w' : World) : Prop :=
  w.heap.size < w'.heap.size ∧ Below w.heap.size w w' ∧
  (w'.cell? ⟨w.heap.size, 0, none⟩ = some (.string ⟨#[]⟩) ∧ w'.cell? ⟨w.heap.size, 1, none⟩ = some (.string ⟨#[]⟩) ∧ w'.cell? ⟨w.heap.size, 2, none⟩ = some (.int .i64 0) ∧ w'.cell? ⟨w.heap.size, 3, none⟩ = some (.string ⟨#[]⟩) ∧ w'.cell? ⟨w.heap.size, 4, none⟩ = some (.int .i64 0)) ∧
  ∀ o, w'.frozen? ⟨w.heap.size, o, none⟩ = false
theorem OutAt.made (w : World) (t : TypeId) : OutAt w (w.alloc (.cells #[.string ⟨#[]⟩, .string ⟨#[]⟩, .int .i64 0, .string ⟨#[]⟩, .int .i64 0] t)) :=
  ⟨by simp, (Below.refl _ _).alloc (Nat.le_refl _) _, ⟨by simp, by simp, by simp, by simp, by simp⟩, fun o => by simp⟩
theorem OutAt.below {w w' w2 : World} (h : OutAt w w') (hb : Below w'.heap.size w' w2) : OutAt w w2 := by
  obtain ⟨hz, hB, ⟨c0, c1, c2, c3, c4⟩, hf⟩ := h
  have hs := hb.size
  obtain ⟨kc, kf⟩ := bcell hb
  refine ⟨by omega, hB.trans (hb.mono (by omega)), ⟨?_, ?_, ?_, ?_, ?_⟩, ?_⟩
  · rw [kc _ _ hz]; exact c0
  · rw [kc _ _ hz]; exact c1
  · rw [kc _ _ hz]; exact c2
  · rw [kc _ _ hz]; exact c3
  · rw [kc _ _ hz]; exact c4
  · intro o; rw [kf _ _ hz]; exact hf o
/-- a url lies in block g -/
def BoxAt (w : World) (g : Nat) (sc ho pa : ByteArray) (po : Int) : Prop :=
  g < w.heap.size ∧ w.cell? ⟨g, 0, none⟩ = some (.string sc) ∧ w.cell? ⟨g, 1, none⟩ = some (.string ho) ∧ w.cell? ⟨g, 2, none⟩ = some (.int .i64 po) ∧ w.cell? ⟨g, 3, none⟩ = some (.string pa)
theorem BoxAt.made (w : World) (t : TypeId) (sc ho pa : ByteArray) (po : Int) : BoxAt (w.alloc (.cells #[.string sc, .string ho, .int .i64 po, .string pa] t)) w.heap.size sc ho pa po :=
  ⟨by simp, by simp, by simp, by simp, by simp⟩
theorem BoxAt.below {w w2 : World} {g : Nat} {sc ho pa : ByteArray} {po : Int} (h : BoxAt w g sc ho pa po) (hb : Below w.heap.size w w2) : BoxAt w2 g sc ho pa po := by
  obtain ⟨hz, c0, c1, c2, c3⟩ := h
  have hs := hb.size
  have kc := (bcell hb).1
  refine ⟨by omega, ?_, ?_, ?_, ?_⟩
  · rw [kc _ _ hz]; exact c0
  · rw [kc _ _ hz]; exact c1
  · rw [kc _ _ hz]; exact c2
  · rw [kc _ _ hz]; exact c3

set_option maxRecDepth 10000 in
set_option maxHeartbeats 400000 in
theorem urlRead_size (t : ByteArray) (w : World) (h : 8000 < t.size) :
    Calls Tryd.prog 17 #[.string t] w fun e w' => e = .returned (urlOut ⟨#[]⟩ ⟨#[]⟩ ⟨#[]⟩ 0 2) ∧ Below w.heap.size w w' := by
  go_enter Tryd.func17, Tryd.ntmps17
  go_wp2
  exact bodyPost_ret (v := urlOut ⟨#[]⟩ ⟨#[]⟩ ⟨#[]⟩ 0 2) (by simp [urlOut, results, Tryd.results17, go_sem]) rfl ⟨rfl, (Below.refl _ _).alloc (Nat.le_refl _) _⟩

set_option maxRecDepth 10000 in
set_option maxHeartbeats 2000000 in
theorem urlRead_more (t : ByteArray) (w : World) (h : t.size ≤ 8000) (hG : MaxI w) (hT : PowI w) :
    Calls Tryd.prog 17 #[.string t] w fun e w' => e = .returned (readV t) ∧ Below w.heap.size w w' := by
  have G1 : Hid (∀ W, Calls Tryd.prog 52 #[.string t] W fun e w' => ∃ sc ho pa po, e = .returned (.agg #[.string sc, .string ho, .int .i64 po, .string pa]) ∧ IsParts t sc ho po pa ∧ sc.size ≤ 8000 ∧ ho.size ≤ 8000 ∧ Below W.heap.size W w') := fun W => urlParts_any t W h
  have G2 : Hid (∀ sc ho pa po W, MaxI W → ho.size ≤ 8000 → Calls Tryd.prog 20 #[.agg #[.string sc, .string ho, .int .i64 po, .string pa]] W fun e w' => e = .returned (.bool (urlB sc ho pa po)) ∧ Below W.heap.size W w') := fun sc ho pa po W hg hh => urlRight_any sc ho pa po W hg (by omega)
  have G3 : Hid (∀ sc ho pa po W, MaxI W → PowI W → ho.size ≤ 8000 → Calls Tryd.prog 15 #[.agg #[.string sc, .string ho, .int .i64 po, .string pa]] W fun e w' => e = .returned (.string (urlT sc ho pa po)) ∧ Below W.heap.size W w') := fun sc ho pa po W hg hp hh => urlText_any sc ho pa po W hg hp (by omega)
  have HG : Hid (MaxI w) := hG
  have HP : Hid (PowI w) := hT
  clear hG hT
  go_enter Tryd.func17, Tryd.ntmps17
  go_wp2_with fail
  refine (G1.out _).mono ?_
  rintro e w1 ⟨sc, ho, pa, po, rfl, hI, hs1, hs2, hb⟩
  have HI : Hid (IsParts t sc ho po pa) := hI
  have HO1 : Hid (OutAt w w1) := (OutAt.made w _).below hb
  have hz1 : w.heap.size < w1.heap.size := HO1.out.1
  clear hb hI
  go_wp2_with fail
  have HO1a : Hid (∀ o, OutAt w (w1.alloc o)) := fun o => HO1.out.below ((Below.refl _ _).alloc (Nat.le_refl _) _)
  refine (G2.out sc ho pa po _ (HG.out.on (HO1a.out _).2.1) hs2).mono ?_
  rintro e w2 ⟨rfl, hb2⟩
  have HO2 : Hid (OutAt w w2) := (HO1a.out _).below hb2
  have HX2 : Hid (BoxAt w2 w1.heap.size sc ho pa po) := (BoxAt.made w1 _ sc ho pa po).below hb2
  clear hb2 HO1 HO1a
  cases hu : urlB sc ho pa po with
  | false =>
    have HV : Hid (readV t = urlOut ⟨#[]⟩ ⟨#[]⟩ ⟨#[]⟩ 0 3) := readV_no h HI.out (by rw [hu]; simp)
    obtain ⟨hz2, hB2, ⟨hc0, hc1, hc2, hc3, hc4⟩, hf0⟩ := HO2.out
    have HB2 : Hid (Below w.heap.size w w2) := hB2
    clear hB2 hu
    go_wp2
    refine bodyPost_ret (v := urlOut ⟨#[]⟩ ⟨#[]⟩ ⟨#[]⟩ 0 3) (by simp [urlOut, results, Tryd.results17, go_sem, hc0, hc1, hc2, hc3, hc4]) rfl ⟨by rw [HV.out], ?_⟩
    exact Below.setCell (Below.setCell (Below.setCell (Below.setCell (Below.setCell HB2.out (Nat.le_refl _) _) (Nat.le_refl _) _) (Nat.le_refl _) _) (Nat.le_refl _) _) (Nat.le_refl _) _
  | true =>
    have HT3 : Hid (∀ W, MaxI W → PowI W → Calls Tryd.prog 15 #[.agg #[.string sc, .string ho, .int .i64 po, .string pa]] W fun e w' => e = .returned (.string (urlT sc ho pa po)) ∧ Below W.heap.size W w') := fun W a b => G3.out sc ho pa po W a b hs2
    have HR : Hid ((((urlT sc ho pa po).toList == t.toList) = true → readV t = urlOut sc ho pa po 0) ∧ (((urlT sc ho pa po).toList == t.toList) = false → readV t = urlOut ⟨#[]⟩ ⟨#[]⟩ ⟨#[]⟩ 0 3)) := ⟨fun h1 => readV_ok h hu h1, fun h1 => readV_no h HI.out (by rw [h1]; simp)⟩
    generalize urlT sc ho pa po = x at *
    obtain ⟨hx2, x0, x1, x2, x3⟩ := HX2.out
    clear hu
    go_wp2_with fail
    refine (HT3.out _ (HG.out.on HO2.out.2.1) (HP.out.on HO2.out.2.1)).mono ?_
    rintro e w3 ⟨rfl, hb3⟩
    have HO3 : Hid (OutAt w w3) := HO2.out.below hb3
    have HX3 : Hid (BoxAt w3 w1.heap.size sc ho pa po) := HX2.out.below hb3
    obtain ⟨hz3, hB3, ⟨hc0, hc1, hc2, hc3, hc4⟩, hf0⟩ := HO3.out
    obtain ⟨hx3, y0, y1, y2, y3⟩ := HX3.out
    have HB3 : Hid (Below w.heap.size w w3) := hB3
    clear hB3 hb3 x0 x1 x2 x3 hx2 HO2 HX2
    cases heq : (x.toList == t.toList) with
    | false =>
      have HV : Hid (readV t = urlOut ⟨#[]⟩ ⟨#[]⟩ ⟨#[]⟩ 0 3) := HR.out.2 heq
      go_wp2
      refine bodyPost_ret (v := urlOut ⟨#[]⟩ ⟨#[]⟩ ⟨#[]⟩ 0 3) (by simp [urlOut, results, Tryd.results17, go_sem, hc0, hc1, hc2, hc3, hc4]) rfl ⟨by rw [HV.out], ?_⟩
      exact Below.setCell (Below.setCell (Below.setCell (Below.setCell (Below.setCell HB3.out (Nat.le_refl _) _) (Nat.le_refl _) _) (Nat.le_refl _) _) (Nat.le_refl _) _) (Nat.le_refl _) _
    | true =>
      have HV : Hid (readV t = urlOut sc ho pa po 0) := HR.out.1 heq
      go_wp2
      refine bodyPost_ret (v := urlOut sc ho pa po 0) (by simp [urlOut, results, Tryd.results17, go_sem, hc0, hc1, hc2, hc3, hc4]) rfl ⟨by rw [HV.out], ?_⟩
      exact Below.setCell (Below.setCell (Below.setCell (Below.setCell (Below.setCell HB3.out (Nat.le_refl _) _) (Nat.le_refl _) _) (Nat.le_refl _) _) (Nat.le_refl _) _) (Nat.le_refl _) _
theorem urlRead_any (t : ByteArray) (w : World) (hG : MaxI w) (hT : PowI w) :
    Calls Tryd.prog 17 #[.string t] w fun e w' => e = .returned (readV t) ∧ Below w.heap.size w w' := by
  by_cases h : 8000 < t.size
  · have := urlRead_size t w h
    rw [readV, if_pos h]; exact this
  · exact urlRead_more t w (by omega) hG hT
end Go.Proofs.YtknjkakokcblnaaDoor
