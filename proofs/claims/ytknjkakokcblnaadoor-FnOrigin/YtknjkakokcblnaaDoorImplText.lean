/- The walks of the program's placeText and UrlText. -/
import Derived.Test.YtknjkakokcblnaaDoorImplUrl
import Derived.Test.YtknjkakokcblnaaDoorSpecUrlText
namespace Go.Proofs.YtknjkakokcblnaaDoor
open Go.RowKit

/-- the library's powers of ten -/
def PowI (w : World) : Prop := Lib.TabIs Tryd.prog w "internal/strconv.uint64pow10" .u64 Lib.pow10Tab
theorem PowI.on {w w' : World} (h : PowI w) (hb : Below w.heap.size w w') : PowI w' := Lib.tabBelow_of_tabIs h w' hb

theorem place_facts {sc ho : ByteArray} {po : Int} (h : placeB sc ho po = true) : schemeB sc = true ∧ sc.size ≤ 5 ∧ ho.size ≤ 100 ∧ 1 ≤ po ∧ po ≤ 65535 := by
  unfold placeB at h
  simp only [Bool.and_eq_true, decide_eq_true_eq] at h
  obtain ⟨⟨h1, h2⟩, h3, h4⟩ := h
  refine ⟨h1, schemeB_size h1, ?_, h3, h4⟩
  by_cases hz : 100 < ho.size
  · rw [hostB_size hz] at h2; cases h2
  · omega
theorem below_grow (w : World) (k : Nat) (os : Array Obj) : Below w.heap.size w (Sort.grow (w.drewN k) os) :=
  ⟨rfl, rfl, rfl, by simp [Sort.grow], fun i hi => by
    show ((w.drewN k).heap ++ os)[i]? = _
    rw [Array.getElem?_append_left (show i < (w.drewN k).heap.size from hi)]
    rfl⟩
theorem dec_call (n : Int) (w : World) (hT : PowI w) (h0 : 0 ≤ n) (h : n ≤ 9223372036854775807) :
    Calls Tryd.prog 65 #[.int .i64 n, .int .i64 10] w fun e w' => e = .returned (.string (decB n)) ∧ Below w.heap.size w w' := by
  obtain ⟨m, rfl⟩ := Int.eq_ofNat_of_zero_le h0
  refine (Any.strconv_FormatInt_10 Tryd.lays173 (m : Int) (by omega) h w hT).mono ?_
  rintro e w' ⟨rfl, k, os, rfl⟩
  exact ⟨ret_text (dec_lib m), below_grow w k os⟩

set_option maxRecDepth 10000 in
set_option maxHeartbeats 400000 in
theorem placeText_any (sc ho : ByteArray) (po : Int) (w : World) (hT : PowI w) (hp : placeB sc ho po = true) :
    Calls Tryd.prog 49 #[.string sc, .string ho, .int .i64 po] w fun e w' => e = .returned (.string (placeT sc ho po)) ∧ Below w.heap.size w w' := by
  obtain ⟨hb1, hs, hh, h1, h2⟩ := place_facts hp
  have H1 := fun W => ownPort_any sc W
  have H2 := dec_call po w hT (by omega) (by omega)
  have hd := decB_size (n := po) (by omega) (by omega)
  have ha : (sc ++ ⟨#[58, 47, 47]⟩ : ByteArray).size ≤ 1003 := by rw [ByteArray.size_append]; show sc.size + 3 ≤ 1003; omega
  have hb : (sc ++ ⟨#[58, 47, 47]⟩ ++ ho : ByteArray).size ≤ 2003 := by rw [ByteArray.size_append]; omega
  have hc : (sc ++ ⟨#[58, 47, 47]⟩ ++ ho ++ ⟨#[58]⟩ : ByteArray).size ≤ 2004 := by rw [ByteArray.size_append]; show _ + 1 ≤ 2004; omega
  have HP : Hid (placeT sc ho po = if po = usualP sc then sc ++ ⟨#[58, 47, 47]⟩ ++ ho else sc ++ ⟨#[58, 47, 47]⟩ ++ ho ++ ⟨#[58]⟩ ++ decB po) := rfl
  rw [ownP_usual hb1] at H1
  generalize usualP sc = us at *
  generalize decB po = d at *
  have G1 : Hid (∀ W, Calls Tryd.prog 72 #[.string sc] W fun e w' => e = .returned (.int .i64 us) ∧ w' = W) := H1
  have G2 : Hid (Calls Tryd.prog 65 #[.int .i64 po, .int .i64 10] w fun e w' => e = .returned (.string d) ∧ Below w.heap.size w w') := H2
  clear H1 H2 h1 h2 hp hb1 hT
  by_cases he : po = us
  · have q : (po == us) = true := by rw [beq_iff_eq]; exact he
    have HE : Hid (po = us) := he
    clear he
    go_enter Tryd.func49, Tryd.ntmps49
    go_wp2_with (go_at_call 72; refine (G1.out _).mono ?_; rintro e w1 ⟨rfl, rfl⟩)
    go_ret
    exact ⟨ret_text (by rw [HP.out, if_pos HE.out]), Below.refl _ _⟩
  · have q : (po == us) = false := by rw [beq_eq_false_iff_ne]; exact he
    have HE : Hid (¬ po = us) := he
    clear he
    go_enter Tryd.func49, Tryd.ntmps49
    go_wp2_with (first | (go_at_call 72; refine (G1.out _).mono ?_; rintro e w1 ⟨rfl, rfl⟩) | (go_at_call 65; refine G2.out.mono ?_; rintro e w2 ⟨rfl, hb2⟩))
    go_ret
    exact ⟨ret_text (by rw [HP.out, if_neg HE.out]), hb2⟩

set_option maxRecDepth 10000 in
set_option maxHeartbeats 400000 in
theorem urlText_any (sc ho pa : ByteArray) (po : Int) (w : World) (hG : MaxI w) (hT : PowI w) (hh : ho.size ≤ 1048576) :
    Calls Tryd.prog 15 #[urlV sc ho pa po] w fun e w' => e = .returned (.string (urlT sc ho pa po)) ∧ Below w.heap.size w w' := by
  have H1 := fun W (h : MaxI W) => urlRight_any sc ho pa po W h hh
  have HG : Hid (∀ o, MaxI (w.alloc o)) := fun o => hG.on ((Below.refl _ _).alloc (Nat.le_refl _) _)
  have HT0 : Hid (PowI w) := hT
  clear hG hT
  by_cases hu : urlB sc ho pa po = true
  · have HT : Hid (urlT sc ho pa po = placeT sc ho po ++ pa) := by
      show _ = _
      rw [urlT, if_pos hu]
    obtain ⟨h1, h2, h3, h4, h5⟩ := urlB_parts hu
    have hpl : placeB sc ho po = true := by
      unfold urlB at hu
      rw [Bool.and_eq_true] at hu; exact hu.1
    have H2 := fun W (h : PowI W) => placeText_any sc ho po W h hpl
    have hz := placeT_size h1 h2 h3 h4
    rw [hu] at H1
    unfold urlV at H1 ⊢
    generalize placeT sc ho po = d at *
    have G1 : Hid (∀ W, MaxI W → Calls Tryd.prog 20 #[.agg #[.string sc, .string ho, .int .i64 po, .string pa]] W fun e w' => e = .returned (.bool true) ∧ Below W.heap.size W w') := H1
    have G2 : Hid (∀ W, PowI W → Calls Tryd.prog 49 #[.string sc, .string ho, .int .i64 po] W fun e w' => e = .returned (.string d) ∧ Below W.heap.size W w') := H2
    have hadd : ∀ W, Sem.run Tryd.prog (Op.stringOp .add d pa) W = .ok (.string (d ++ pa)) W := fun W => run_string_add_sum W d pa (by omega)
    have hnot : ¬ 9223372036854775807 < d.size + pa.size := by omega
    clear H1 H2 hu h3 h4 hpl
    go_enter Tryd.func15, Tryd.ntmps15
    go_wp2_with fail
    refine (G1.out _ (HG.out _)).mono ?_
    rintro e w1 ⟨rfl, hb⟩
    have hz1 : w.heap.size < w1.heap.size := by have := hb.size; simp at this; omega
    have hc0 : w1.cell? ⟨w.heap.size, 0, none⟩ = some (.string sc) := by rw [(bcell hb).1 _ _ (by simp)]; simp
    have hc1 : w1.cell? ⟨w.heap.size, 1, none⟩ = some (.string ho) := by rw [(bcell hb).1 _ _ (by simp)]; simp
    have hc2 : w1.cell? ⟨w.heap.size, 2, none⟩ = some (.int .i64 po) := by rw [(bcell hb).1 _ _ (by simp)]; simp
    have hc3 : w1.cell? ⟨w.heap.size, 3, none⟩ = some (.string pa) := by rw [(bcell hb).1 _ _ (by simp)]; simp
    have HB : Hid (Below w.heap.size w w1) := ((Below.refl _ _).alloc (Nat.le_refl _) _).trans (hb.mono (by simp))
    have HT1 : Hid (∀ n, PowI (w1.drewN n)) := fun n => HT0.out.on ⟨HB.out.os, HB.out.tape, HB.out.output, HB.out.size, HB.out.block⟩
    have HT2 : Hid (PowI w1.drew) := HT0.out.on ⟨HB.out.os, HB.out.tape, HB.out.output, HB.out.size, HB.out.block⟩
    clear hb
    go_wp2_with fail
    go_region_held3 (fun w' => w'.cell? ⟨w.heap.size, 0, none⟩ = some (.string sc) ∧ w'.cell? ⟨w.heap.size, 1, none⟩ = some (.string ho) ∧ w'.cell? ⟨w.heap.size, 2, none⟩ = some (.int .i64 po) ∧ w'.cell? ⟨w.heap.size, 3, none⟩ = some (.string pa)) (go_keep)
      (first | (go_at_call 49; refine (G2.out _ (by first | exact HT2.out | exact HT1.out _)).mono ?_; rintro e w2 ⟨rfl, hb2⟩; have hd0 : w2.cell? ⟨w.heap.size, 0, none⟩ = some (.string sc) := (hb2.cell (p := ⟨w.heap.size, 0, none⟩) (by simpa using hz1)).trans (by simpa using hc0); have hd1 : w2.cell? ⟨w.heap.size, 1, none⟩ = some (.string ho) := (hb2.cell (p := ⟨w.heap.size, 1, none⟩) (by simpa using hz1)).trans (by simpa using hc1); have hd2 : w2.cell? ⟨w.heap.size, 2, none⟩ = some (.int .i64 po) := (hb2.cell (p := ⟨w.heap.size, 2, none⟩) (by simpa using hz1)).trans (by simpa using hc2); have hd3 : w2.cell? ⟨w.heap.size, 3, none⟩ = some (.string pa) := (hb2.cell (p := ⟨w.heap.size, 3, none⟩) (by simpa using hz1)).trans (by simpa using hc3)))
    all_goals go_wp2
    all_goals
      go_ret
      exact ⟨ret_text HT.out.symm, HB.out.trans (((Below.refl _ _).drew).trans (hb2.mono (by simp; omega)))⟩
  · have hf : urlB sc ho pa po = false := by simpa using hu
    have HT : Hid (urlT sc ho pa po = ⟨#[]⟩) := by
      show _ = _
      rw [urlT, if_neg hu]
    rw [hf] at H1
    unfold urlV at H1 ⊢
    have G1 : Hid (∀ W, MaxI W → Calls Tryd.prog 20 #[.agg #[.string sc, .string ho, .int .i64 po, .string pa]] W fun e w' => e = .returned (.bool false) ∧ Below W.heap.size W w') := H1
    clear H1 hu hf
    go_enter Tryd.func15, Tryd.ntmps15
    go_wp2_with fail
    refine (G1.out _ (HG.out _)).mono ?_
    rintro e w1 ⟨rfl, hb⟩
    go_wp2
    go_ret
    exact ⟨ret_text HT.out.symm, ((Below.refl _ _).alloc (Nat.le_refl _) _).trans (hb.mono (by simp))⟩
end Go.Proofs.YtknjkakokcblnaaDoor
