/- 7 of this claim's texts, one behind the other. -/
import Derived.Test.YtmlacbjlafdenaaDoorPart2
import Derived.Deep.RegionHeld3
import Derived.Test.YtmlacbjlafdenaaDoorPart1
import Derived.Laws.Bits64
/- The walk of the specification's UrlText. -/
namespace Go.Proofs.YtmlacbjlafdenaaDoor
open Go.RowKit

/-- the text of a right url, else the empty one -/
def urlT (sc ho pa : ByteArray) (po : Int) : ByteArray := if urlB sc ho pa po = true then placeT sc ho po ++ pa else ⟨#[]⟩
theorem schemeB_size {t : ByteArray} (h : schemeB t = true) : t.size ≤ 5 := by
  have hl : t.size = t.toList.length := by rw [ByteArray.toList_eq]; rfl
  unfold schemeB at h
  rw [Bool.or_eq_true, beq_iff_eq, beq_iff_eq] at h
  rcases h with h | h <;> rw [hl, h] <;> decide
theorem urlB_parts {sc ho pa : ByteArray} {po : Int} (h : urlB sc ho pa po = true) : sc.size ≤ 5 ∧ ho.size ≤ 100 ∧ 1 ≤ po ∧ po ≤ 65535 ∧ pa.size ≤ 40 := by
  unfold urlB placeB at h
  simp only [Bool.and_eq_true, decide_eq_true_eq] at h
  obtain ⟨⟨⟨h1, h2⟩, h3, h4⟩, h5⟩ := h
  refine ⟨schemeB_size h1, ?_, h3, h4, ?_⟩
  · by_cases hz : 100 < ho.size
    · rw [hostB_size hz] at h2; cases h2
    · omega
  · by_cases hz : 40 < pa.size
    · rw [pathB_size (.inr hz)] at h5; cases h5
    · omega
theorem placeT_size {sc ho : ByteArray} {po : Int} (h1 : sc.size ≤ 5) (h2 : ho.size ≤ 100) (h3 : 1 ≤ po) (h4 : po ≤ 65535) : (placeT sc ho po).size ≤ 200 := by
  have hd := decB_size (n := po) (by omega) (by omega)
  have e1 : (⟨#[58, 47, 47]⟩ : ByteArray).size = 3 := rfl
  have e2 : (⟨#[58]⟩ : ByteArray).size = 1 := rfl
  unfold placeT
  split
  · rw [ByteArray.size_append, ByteArray.size_append]; omega
  · rw [ByteArray.size_append, ByteArray.size_append, ByteArray.size_append, ByteArray.size_append]; omega

set_option maxRecDepth 10000 in
set_option maxHeartbeats 400000 in
theorem specUrlText_any (sc ho pa : ByteArray) (po : Int) (w : World) :
    Calls Tryd.prog 20 #[urlV sc ho pa po] w fun e w' => e = .returned (.string (urlT sc ho pa po)) ∧ Below w.heap.size w w' := by
  have H1 := fun W => specUrlRight_any sc ho pa po W
  by_cases hu : urlB sc ho pa po = true
  · have HT : Hid (urlT sc ho pa po = placeT sc ho po ++ pa) := by
      show _ = _
      rw [urlT, if_pos hu]
    obtain ⟨h1, h2, h3, h4, h5⟩ := urlB_parts hu
    have H2 := fun W => specText_any sc ho po W (by omega) (by omega) (by omega) (by omega)
    have hz := placeT_size h1 h2 h3 h4
    rw [hu] at H1
    unfold urlV at H1 ⊢
    generalize placeT sc ho po = d at *
    have G1 : Hid (∀ W, Calls Tryd.prog 22 #[.agg #[.string sc, .string ho, .int .i64 po, .string pa]] W fun e w' => e = .returned (.bool true) ∧ Below W.heap.size W w') := H1
    have G2 : Hid (∀ W, Calls Tryd.prog 63 #[.string sc, .string ho, .int .i64 po] W fun e w' => e = .returned (.string d) ∧ Below W.heap.size W w') := H2
    have hadd : ∀ W, Sem.run Tryd.prog (Op.stringOp .add d pa) W = .ok (.string (d ++ pa)) W := fun W => run_string_add_sum W d pa (by omega)
    have hnot : ¬ 9223372036854775807 < d.size + pa.size := by omega
    clear H1 H2 hu h3 h4
    go_enter Tryd.func20, Tryd.ntmps20
    go_wp2_with fail
    refine (G1.out _).mono ?_
    rintro e w1 ⟨rfl, hb⟩
    have hz1 : w.heap.size < w1.heap.size := by have := hb.size; simp at this; omega
    have hc0 : w1.cell? ⟨w.heap.size, 0, none⟩ = some (.string sc) := by rw [(bcell hb).1 _ _ (by simp)]; simp
    have hc1 : w1.cell? ⟨w.heap.size, 1, none⟩ = some (.string ho) := by rw [(bcell hb).1 _ _ (by simp)]; simp
    have hc2 : w1.cell? ⟨w.heap.size, 2, none⟩ = some (.int .i64 po) := by rw [(bcell hb).1 _ _ (by simp)]; simp
    have hc3 : w1.cell? ⟨w.heap.size, 3, none⟩ = some (.string pa) := by rw [(bcell hb).1 _ _ (by simp)]; simp
    have HB : Hid (Below w.heap.size w w1) := ((Below.refl _ _).alloc (Nat.le_refl _) _).trans (hb.mono (by simp))
    clear hb
    go_wp2_with fail
    go_region_held3 (fun w' => w'.cell? ⟨w.heap.size, 0, none⟩ = some (.string sc) ∧ w'.cell? ⟨w.heap.size, 1, none⟩ = some (.string ho) ∧ w'.cell? ⟨w.heap.size, 2, none⟩ = some (.int .i64 po) ∧ w'.cell? ⟨w.heap.size, 3, none⟩ = some (.string pa)) (go_keep)
      (first | (go_at_call 63; refine (G2.out _).mono ?_; rintro e w2 ⟨rfl, hb2⟩; have hd0 : w2.cell? ⟨w.heap.size, 0, none⟩ = some (.string sc) := (hb2.cell (p := ⟨w.heap.size, 0, none⟩) (by simpa using hz1)).trans (by simpa using hc0); have hd1 : w2.cell? ⟨w.heap.size, 1, none⟩ = some (.string ho) := (hb2.cell (p := ⟨w.heap.size, 1, none⟩) (by simpa using hz1)).trans (by simpa using hc1); have hd2 : w2.cell? ⟨w.heap.size, 2, none⟩ = some (.int .i64 po) := (hb2.cell (p := ⟨w.heap.size, 2, none⟩) (by simpa using hz1)).trans (by simpa using hc2); have hd3 : w2.cell? ⟨w.heap.size, 3, none⟩ = some (.string pa) := (hb2.cell (p := ⟨w.heap.size, 3, none⟩) (by simpa using hz1)).trans (by simpa using hc3)))
    all_goals go_wp2
    all_goals
      go_ret
      exact ⟨ret_text HT.out.symm, HB.out.trans (((Below.refl _ _).drew).trans (hb2.mono (by simp; omega)))⟩
  · have hf : urlB sc ho pa po = false := by simpa using hu
    have HT : Hid (urlT sc ho pa po = ⟨#[]⟩) := by
      show _ = _
      rw [urlT, if_neg hu]
    rw [hf] at H1
    unfold urlV at H1 ⊢
    have G1 : Hid (∀ W, Calls Tryd.prog 22 #[.agg #[.string sc, .string ho, .int .i64 po, .string pa]] W fun e w' => e = .returned (.bool false) ∧ Below W.heap.size W w') := H1
    clear H1 hu hf
    go_enter Tryd.func20, Tryd.ntmps20
    go_wp2_with fail
    refine (G1.out _).mono ?_
    rintro e w1 ⟨rfl, hb⟩
    go_wp2
    go_ret
    exact ⟨ret_text HT.out.symm, ((Below.refl _ _).alloc (Nat.le_refl _) _).trans (hb.mono (by simp))⟩
end Go.Proofs.YtmlacbjlafdenaaDoor

/- The walks of the specification's l03Site and SiteOf. -/
namespace Go.Proofs.YtmlacbjlafdenaaDoor
open Go.RowKit

/-- the domain, or the host if there is none -/
def siteD (n : Nat) (f : Nat → ByteArray) (ho : ByteArray) : ByteArray := if (sufD n f ho).toList.isEmpty = true then ho else sufD n f ho
def siteT (n : Nat) (f : Nat → ByteArray) (sc ho : ByteArray) : ByteArray := sc ++ ⟨#[58, 47, 47]⟩ ++ siteD n f ho
/-- what SiteOf tells -/
def siteOf (n : Nat) (f : Nat → ByteArray) (sc ho pa : ByteArray) (po : Int) : ByteArray := if rulesB n f = true ∧ urlB sc ho pa po = true then siteT n f sc ho else ⟨#[]⟩
/-- of one site -/
def sameS (n : Nat) (f : Nat → ByteArray) (sc ho pa : ByteArray) (po : Int) (sc2 ho2 pa2 : ByteArray) (po2 : Int) : Bool :=
  rulesB n f && urlB sc ho pa po && urlB sc2 ho2 pa2 po2 && ((siteT n f sc ho).toList == (siteT n f sc2 ho2).toList)
theorem sufD_size (n : Nat) (f : Nat → ByteArray) {s : ByteArray} (h : s.size ≤ 100) : (sufD n f s).size ≤ 20000 := by
  unfold sufD
  split
  · rename_i hc
    have hl := splitB_len s 46
    have := tailN_size (f := atL (splitB s 46)) (d := (splitB s 46).length - (sufC n f s + 1)) 100 (sufC n f s + 1) (fun i hi => piece_small h _ (by omega))
    have h2 : 101 * (sufC n f s + 1) ≤ 101 * 101 := Nat.mul_le_mul_left _ (by omega)
    omega
  · exact Nat.zero_le _
theorem hostB_url {sc ho pa : ByteArray} {po : Int} (h : urlB sc ho pa po = true) : hostB ho = true := by
  unfold urlB placeB at h
  rw [Bool.and_eq_true, Bool.and_eq_true, Bool.and_eq_true] at h
  exact h.1.1.2

set_option maxRecDepth 100000 in
theorem field_domain (a b : ByteArray) (W : World) : Sem.run Tryd.prog (Instr.field 62 (.agg #[.string a, .string b]) 1) W = .ok (.string b) W := by kernel_rfl
set_option maxRecDepth 10000 in
set_option maxHeartbeats 1000000 in
theorem specSite_any (v : Value) (n B : Nat) (f : Nat → ByteArray) (sc ho pa : ByteArray) (po : Int) (w : World) (hs : SliceS w B v n f) (l1 : n ≤ 1048576) (hf : ∀ i, i < n → 0 < (f i).size ∧ (f i).size ≤ 1000) (h5 : sc.size ≤ 5) (hh : ho.size ≤ 100) :
    Calls Tryd.prog 78 #[v, urlV sc ho pa po] w fun e w' => e = .returned (.string (siteT n f sc ho)) ∧ Below w.heap.size w w' := by
  have B0 : Hid (∀ t : TypeId, Below w.heap.size w (w.alloc (.cells #[.string sc, .string ho, .int .i64 po, .string pa] t))) := fun t => (Below.refl _ _).alloc (Nat.le_refl _) _
  have KO : Hid (∀ t : TypeId, Calls Tryd.prog 82 #[v, .string ho] (w.alloc (.cells #[.string sc, .string ho, .int .i64 po, .string pa] t)) fun e w' => e = .returned (.agg #[.string (sufS n f ho), .string (sufD n f ho)]) ∧ Below (w.alloc (.cells #[.string sc, .string ho, .int .i64 po, .string pa] t)).heap.size (w.alloc (.cells #[.string sc, .string ho, .int .i64 po, .string pa] t)) w') :=
    fun t => specOf_any v n B f ho _ (hs.below (B0.out t)) l1 hf hh
  have hz := sufD_size n f hh
  have ET : Hid (siteT n f sc ho = sc ++ ⟨#[58, 47, 47]⟩ ++ (if (sufD n f ho).toList.isEmpty = true then ho else sufD n f ho)) := rfl
  have h3 : (sc ++ ⟨#[58, 47, 47]⟩ : ByteArray).size ≤ 8 := by
    have e : (⟨#[58, 47, 47]⟩ : ByteArray).size = 3 := rfl
    rw [ByteArray.size_append, e]; omega
  clear hs hf
  generalize siteT n f sc ho = T at *
  generalize sufD n f ho = D at *
  generalize sufS n f ho = S at *
  unfold urlV
  have hfd : ∀ (a b : ByteArray) (W : World), Sem.run Tryd.prog (Instr.field 62 (.agg #[.string a, .string b]) 1) W = .ok (.string b) W := field_domain
  go_enter Tryd.func78, Tryd.ntmps78
  go_wp2_with fail
  refine (KO.out _).mono ?_
  rintro e w1 ⟨rfl, hb1⟩
  have c0 : w1.cell? ⟨w.heap.size, 0, none⟩ = some (.string sc) := by rw [(bcell hb1).1 _ _ (by simp)]; simp
  have c1 : w1.cell? ⟨w.heap.size, 1, none⟩ = some (.string ho) := by rw [(bcell hb1).1 _ _ (by simp)]; simp
  have B1 : Hid (Below w.heap.size w w1) := (B0.out _).trans (hb1.mono (by simp))
  clear hb1
  cases hd : D.toList.isEmpty with
  | true =>
    have HT : Hid (T = sc ++ ⟨#[58, 47, 47]⟩ ++ ho) := by show _ = _; rw [ET.out, if_pos hd]
    go_wp2
    go_ret
    exact ⟨ret_text HT.out.symm, B1.out⟩
  | false =>
    have HT : Hid (T = sc ++ ⟨#[58, 47, 47]⟩ ++ D) := by show _ = _; rw [ET.out, if_neg (by rw [hd]; decide)]
    go_wp2
    go_ret
    exact ⟨ret_text HT.out.symm, B1.out⟩
set_option maxRecDepth 10000 in
set_option maxHeartbeats 1000000 in
theorem specSiteOf_any (v : Value) (n B : Nat) (f : Nat → ByteArray) (sc ho pa : ByteArray) (po : Int) (w : World) (hs : SliceS w B v n f) (l1 : n ≤ 1048576) (hf : ∀ i, i < n → (f i).size ≤ 1048576) :
    Calls Tryd.prog 44 #[v, urlV sc ho pa po] w fun e w' => e = .returned (.string (siteOf n f sc ho pa po)) ∧ Below w.heap.size w w' := by
  have HSl : Hid (SliceS w B v n f) := hs
  have B0 : Hid (∀ t : TypeId, Below w.heap.size w (w.alloc (.cells #[.string sc, .string ho, .int .i64 po, .string pa] t))) := fun t => (Below.refl _ _).alloc (Nat.le_refl _) _
  have KR : Hid (∀ W, SliceS W B v n f → Calls Tryd.prog 45 #[v] W fun e w' => e = .returned (.bool (rulesB n f)) ∧ Below W.heap.size W w') := fun W a => specRules_any v n B f W a l1 hf
  have KU : Hid (∀ W, Calls Tryd.prog 22 #[.agg #[.string sc, .string ho, .int .i64 po, .string pa]] W fun e w' => e = .returned (.bool (urlB sc ho pa po)) ∧ Below W.heap.size W w') := fun W => specUrlRight_any sc ho pa po W
  have KT : Hid (rulesB n f = true → urlB sc ho pa po = true → ∀ W, SliceS W B v n f → Calls Tryd.prog 78 #[v, .agg #[.string sc, .string ho, .int .i64 po, .string pa]] W fun e w' => e = .returned (.string (siteT n f sc ho)) ∧ Below W.heap.size W w') :=
    fun a b W c => specSite_any v n B f sc ho pa po W c l1 (rulesB_parts a).2 (urlB_parts b).1 (urlB_parts b).2.1
  have HN : Hid (¬ (rulesB n f = true ∧ urlB sc ho pa po = true) → siteOf n f sc ho pa po = ⟨#[]⟩) := fun h => by rw [siteOf, if_neg h]
  have HY : Hid (rulesB n f = true → urlB sc ho pa po = true → siteOf n f sc ho pa po = siteT n f sc ho) := fun a b => by rw [siteOf, if_pos ⟨a, b⟩]
  have HR20 : Hid (rulesB n f = true → n ≤ 20) := fun a => (rulesB_parts a).1
  obtain ⟨p, cap, rfl, -⟩ := hs
  clear hf
  unfold urlV
  by_cases h400 : 400 < n
  · have HZ : Hid (siteOf n f sc ho pa po = ⟨#[]⟩) := HN.out (fun a => by have := HR20.out a.1; omega)
    go_enter Tryd.func44, Tryd.ntmps44
    go_wp2
    go_ret
    exact ⟨ret_text HZ.out.symm, B0.out _⟩
  have q1 : decide ((400 : Int) < (n : Int)) = false := by rw [decide_eq_false_iff_not]; omega
  generalize siteOf n f sc ho pa po = T at *
  generalize siteT n f sc ho = T2 at *
  generalize rulesB n f = rb at *
  generalize urlB sc ho pa po = ub at *
  cases rb with
  | false =>
    have HZ : Hid (T = ⟨#[]⟩) := HN.out (fun a => by cases a.1)
    go_enter Tryd.func44, Tryd.ntmps44
    go_wp2_with fail
    refine (KR.out _ (HSl.out.below (B0.out _))).mono ?_
    rintro e w1 ⟨rfl, hb1⟩
    have B1 : Hid (Below w.heap.size w w1) := (B0.out _).trans (hb1.mono (by simp))
    clear hb1
    go_wp2
    go_ret
    exact ⟨ret_text HZ.out.symm, B1.out⟩
  | true =>
    go_enter Tryd.func44, Tryd.ntmps44
    go_wp2_with fail
    refine (KR.out _ (HSl.out.below (B0.out _))).mono ?_
    rintro e w1 ⟨rfl, hb1⟩
    have c0 : w1.cell? ⟨w.heap.size, 0, none⟩ = some (.string sc) := by rw [(bcell hb1).1 _ _ (by simp)]; simp
    have c1 : w1.cell? ⟨w.heap.size, 1, none⟩ = some (.string ho) := by rw [(bcell hb1).1 _ _ (by simp)]; simp
    have c2 : w1.cell? ⟨w.heap.size, 2, none⟩ = some (.int .i64 po) := by rw [(bcell hb1).1 _ _ (by simp)]; simp
    have c3 : w1.cell? ⟨w.heap.size, 3, none⟩ = some (.string pa) := by rw [(bcell hb1).1 _ _ (by simp)]; simp
    have hz1 : w.heap.size < w1.heap.size := by have := hb1.size; simp at this; omega
    have B1 : Hid (Below w.heap.size w w1) := (B0.out _).trans (hb1.mono (by simp))
    clear hb1
    go_wp2_with fail
    refine (KU.out _).mono ?_
    rintro e w2 ⟨rfl, hb2⟩
    have B2 : Hid (Below w.heap.size w w2) := B1.out.trans (hb2.mono B1.out.size)
    cases ub with
    | false =>
      have HZ : Hid (T = ⟨#[]⟩) := HN.out (fun a => by cases a.2)
      clear hb2
      go_wp2
      go_ret
      exact ⟨ret_text HZ.out.symm, B2.out⟩
    | true =>
      have HZ : Hid (T = T2) := HY.out (by trivial) (by trivial)
      have KT2 : Hid _ := KT.out (by trivial) (by trivial)
      have d0 : w2.cell? ⟨w.heap.size, 0, none⟩ = some (.string sc) := by rw [(bcell hb2).1 _ _ hz1]; exact c0
      have d1 : w2.cell? ⟨w.heap.size, 1, none⟩ = some (.string ho) := by rw [(bcell hb2).1 _ _ hz1]; exact c1
      have d2 : w2.cell? ⟨w.heap.size, 2, none⟩ = some (.int .i64 po) := by rw [(bcell hb2).1 _ _ hz1]; exact c2
      have d3 : w2.cell? ⟨w.heap.size, 3, none⟩ = some (.string pa) := by rw [(bcell hb2).1 _ _ hz1]; exact c3
      clear hb2 c0 c1 c2 c3 KT HN HY
      go_wp2_with fail
      refine (KT2.out _ (HSl.out.below B2.out)).mono ?_
      rintro e w3 ⟨rfl, hb3⟩
      go_wp2
      go_ret
      exact ⟨ret_text HZ.out.symm, B2.out.trans (hb3.mono B2.out.size)⟩
end Go.Proofs.YtmlacbjlafdenaaDoor

/- The walks of the program's SiteOf and SameSite. -/
namespace Go.Proofs.YtmlacbjlafdenaaDoor
open Go.RowKit

set_option maxRecDepth 10000 in
set_option maxHeartbeats 1000000 in
theorem siteOf_any (v : Value) (n B : Nat) (f : Nat → ByteArray) (sc ho pa : ByteArray) (po : Int) (w : World) (hG : MaxI w) (hs : SliceS w B v n f) (l1 : n ≤ 1048576) (hf : ∀ i, i < n → (f i).size ≤ 1048576) (hh : ho.size ≤ 1048576) :
    Calls Tryd.prog 43 #[v, urlV sc ho pa po] w fun e w' => e = .returned (.string (siteOf n f sc ho pa po)) ∧ Below w.heap.size w w' := by
  have HSl : Hid (SliceS w B v n f) := hs
  have HG : Hid (MaxI w) := hG
  have B0 : Hid (∀ t : TypeId, Below w.heap.size w (w.alloc (.cells #[.string sc, .string ho, .int .i64 po, .string pa] t))) := fun t => (Below.refl _ _).alloc (Nat.le_refl _) _
  have KR : Hid (∀ W, MaxI W → SliceS W B v n f → Calls Tryd.prog 79 #[v] W fun e w' => e = .returned (.bool (rulesB n f)) ∧ Below W.heap.size W w') := fun W a b => rulesRight_any v n B f W a b l1 hf
  have KU : Hid (∀ W, MaxI W → Calls Tryd.prog 21 #[.agg #[.string sc, .string ho, .int .i64 po, .string pa]] W fun e w' => e = .returned (.bool (urlB sc ho pa po)) ∧ Below W.heap.size W w') := fun W a => urlRight_any sc ho pa po W a hh
  have KT : Hid (∀ W, MaxI W → SliceS W B v n f → Calls Tryd.prog 80 #[v, .string ho] W fun e w' => e = .returned (.agg #[.string (sufOf n f ho).1, .string (sufOf n f ho).2]) ∧ Below W.heap.size W w') := fun W a b => suffixOf_any v n B f ho W a b l1 hf hh
  have HN : Hid (¬ (rulesB n f = true ∧ urlB sc ho pa po = true) → siteOf n f sc ho pa po = ⟨#[]⟩) := fun h => by rw [siteOf, if_neg h]
  have HY : Hid (rulesB n f = true → urlB sc ho pa po = true → siteOf n f sc ho pa po = sc ++ ⟨#[58, 47, 47]⟩ ++ (if (sufOf n f ho).2.toList.isEmpty = true then ho else (sufOf n f ho).2) ∧ sc.size ≤ 5 ∧ ho.size ≤ 100 ∧ (sufOf n f ho).2.size ≤ 20000) := fun a b => by
    have hp := urlB_parts b
    have e : sufOf n f ho = (sufS n f ho, sufD n f ho) := by rw [sufOf, if_pos ⟨a, hostB_url b⟩]
    rw [siteOf, if_pos ⟨a, b⟩, e]
    exact ⟨rfl, hp.1, hp.2.1, sufD_size n f hp.2.1⟩
  clear hf hs hG
  unfold urlV
  have hfd : ∀ (a b : ByteArray) (W : World), Sem.run Tryd.prog (Instr.field 62 (.agg #[.string a, .string b]) 1) W = .ok (.string b) W := field_domain
  generalize siteOf n f sc ho pa po = T at *
  generalize (sufOf n f ho).2 = D at *
  generalize (sufOf n f ho).1 = S at *
  generalize rulesB n f = rb at *
  generalize urlB sc ho pa po = ub at *
  cases rb with
  | false =>
    have HZ : Hid (T = ⟨#[]⟩) := HN.out (fun a => by cases a.1)
    go_enter Tryd.func43, Tryd.ntmps43
    go_wp2_with fail
    refine (KR.out _ (HG.out.on (B0.out _)) (HSl.out.below (B0.out _))).mono ?_
    rintro e w1 ⟨rfl, hb1⟩
    have B1 : Hid (Below w.heap.size w w1) := (B0.out _).trans (hb1.mono (by simp))
    clear hb1
    go_wp2
    go_ret
    exact ⟨ret_text HZ.out.symm, B1.out⟩
  | true =>
    have HN2 : Hid (ub = false → T = ⟨#[]⟩) := fun h => HN.out (fun a => by rw [h] at a; cases a.2)
    have HY2 : Hid _ := HY.out rfl
    clear HN HY
    go_enter Tryd.func43, Tryd.ntmps43
    go_wp2_with fail
    refine (KR.out _ (HG.out.on (B0.out _)) (HSl.out.below (B0.out _))).mono ?_
    rintro e w1 ⟨rfl, hb1⟩
    have c0 : w1.cell? ⟨w.heap.size, 0, none⟩ = some (.string sc) := by rw [(bcell hb1).1 _ _ (by simp)]; simp
    have c1 : w1.cell? ⟨w.heap.size, 1, none⟩ = some (.string ho) := by rw [(bcell hb1).1 _ _ (by simp)]; simp
    have c2 : w1.cell? ⟨w.heap.size, 2, none⟩ = some (.int .i64 po) := by rw [(bcell hb1).1 _ _ (by simp)]; simp
    have c3 : w1.cell? ⟨w.heap.size, 3, none⟩ = some (.string pa) := by rw [(bcell hb1).1 _ _ (by simp)]; simp
    have hz1 : w.heap.size < w1.heap.size := by have := hb1.size; simp at this; omega
    have B1 : Hid (Below w.heap.size w w1) := (B0.out _).trans (hb1.mono (by simp))
    clear hb1
    go_wp2_with fail
    refine (KU.out _ (HG.out.on B1.out)).mono ?_
    rintro e w2 ⟨rfl, hb2⟩
    have B2 : Hid (Below w.heap.size w w2) := B1.out.trans (hb2.mono B1.out.size)
    cases ub with
    | false =>
      have HZ : Hid (T = ⟨#[]⟩) := HN2.out rfl
      clear hb2
      go_wp2
      go_ret
      exact ⟨ret_text HZ.out.symm, B2.out⟩
    | true =>
      obtain ⟨hT, h5, h100, hD⟩ := HY2.out rfl
      have ET : Hid (T = sc ++ ⟨#[58, 47, 47]⟩ ++ (if D.toList.isEmpty = true then ho else D)) := hT
      have h3 : (sc ++ ⟨#[58, 47, 47]⟩ : ByteArray).size ≤ 8 := by
        have e : (⟨#[58, 47, 47]⟩ : ByteArray).size = 3 := rfl
        rw [ByteArray.size_append, e]; omega
      have d0 : w2.cell? ⟨w.heap.size, 0, none⟩ = some (.string sc) := by rw [(bcell hb2).1 _ _ hz1]; exact c0
      have d1 : w2.cell? ⟨w.heap.size, 1, none⟩ = some (.string ho) := by rw [(bcell hb2).1 _ _ hz1]; exact c1
      have hz2 : w.heap.size < w2.heap.size := Nat.lt_of_lt_of_le hz1 hb2.size
      clear hb2 c0 c1 c2 c3 HN2 HY2 hT
      go_wp2_with fail
      refine (KT.out _ (HG.out.on B2.out) (HSl.out.below B2.out)).mono ?_
      rintro e w3 ⟨rfl, hb3⟩
      have f0 : w3.cell? ⟨w.heap.size, 0, none⟩ = some (.string sc) := by rw [(bcell hb3).1 _ _ hz2]; exact d0
      have f1 : w3.cell? ⟨w.heap.size, 1, none⟩ = some (.string ho) := by rw [(bcell hb3).1 _ _ hz2]; exact d1
      have B3 : Hid (Below w.heap.size w w3) := B2.out.trans (hb3.mono B2.out.size)
      clear hb3 d0 d1
      cases hd : D.toList.isEmpty with
      | true =>
        have HT : Hid (T = sc ++ ⟨#[58, 47, 47]⟩ ++ ho) := by show _ = _; rw [ET.out, if_pos hd]
        go_wp2
        go_ret
        exact ⟨ret_text HT.out.symm, B3.out⟩
      | false =>
        have HT : Hid (T = sc ++ ⟨#[58, 47, 47]⟩ ++ D) := by show _ = _; rw [ET.out, if_neg (by rw [hd]; decide)]
        go_wp2
        go_ret
        exact ⟨ret_text HT.out.symm, B3.out⟩

theorem siteT_ne (n : Nat) (f : Nat → ByteArray) (sc ho : ByteArray) : (siteT n f sc ho).toList.isEmpty = false := by
  rw [Lib.toList_data, List.isEmpty_eq_false_iff]
  intro e
  have h : (siteT n f sc ho).size = 0 := by rw [Lib.size_eq, e]; rfl
  unfold siteT at h
  have e3 : (⟨#[58, 47, 47]⟩ : ByteArray).size = 3 := rfl
  rw [ByteArray.size_append, ByteArray.size_append, e3] at h
  omega
theorem sameS_site (n : Nat) (f : Nat → ByteArray) (sc ho pa : ByteArray) (po : Int) (sc2 ho2 pa2 : ByteArray) (po2 : Int) :
    sameS n f sc ho pa po sc2 ho2 pa2 po2 = (!(siteOf n f sc ho pa po).toList.isEmpty && ((siteOf n f sc ho pa po).toList == (siteOf n f sc2 ho2 pa2 po2).toList)) := by
  unfold sameS siteOf
  cases rulesB n f <;> cases urlB sc ho pa po <;> cases urlB sc2 ho2 pa2 po2 <;> simp [siteT_ne]

set_option maxRecDepth 10000 in
set_option maxHeartbeats 1000000 in
theorem sameSite_any (v : Value) (n B : Nat) (f : Nat → ByteArray) (sc ho pa : ByteArray) (po : Int) (sc2 ho2 pa2 : ByteArray) (po2 : Int) (w : World) (hG : MaxI w) (hs : SliceS w B v n f) (l1 : n ≤ 1048576) (hf : ∀ i, i < n → (f i).size ≤ 1048576) (hh : ho.size ≤ 1048576) (hh2 : ho2.size ≤ 1048576) :
    Calls Tryd.prog 41 #[v, urlV sc ho pa po, urlV sc2 ho2 pa2 po2] w fun e w' => e = .returned (.bool (sameS n f sc ho pa po sc2 ho2 pa2 po2)) ∧ Below w.heap.size w w' := by
  have HSl : Hid (SliceS w B v n f) := hs
  have HG : Hid (MaxI w) := hG
  have B0 : Hid (∀ t t2 : TypeId, Below w.heap.size w ((w.alloc (.cells #[.string sc, .string ho, .int .i64 po, .string pa] t)).alloc (.cells #[.string sc2, .string ho2, .int .i64 po2, .string pa2] t2))) := fun t t2 => ((Below.refl _ _).alloc (Nat.le_refl _) _).alloc (by simp) _
  have K1 : Hid (∀ W, MaxI W → SliceS W B v n f → Calls Tryd.prog 43 #[v, .agg #[.string sc, .string ho, .int .i64 po, .string pa]] W fun e w' => e = .returned (.string (siteOf n f sc ho pa po)) ∧ Below W.heap.size W w') := fun W a b => siteOf_any v n B f sc ho pa po W a b l1 hf hh
  have K2 : Hid (∀ W, MaxI W → SliceS W B v n f → Calls Tryd.prog 43 #[v, .agg #[.string sc2, .string ho2, .int .i64 po2, .string pa2]] W fun e w' => e = .returned (.string (siteOf n f sc2 ho2 pa2 po2)) ∧ Below W.heap.size W w') := fun W a b => siteOf_any v n B f sc2 ho2 pa2 po2 W a b l1 hf hh2
  have HE : Hid (sameS n f sc ho pa po sc2 ho2 pa2 po2 = (!(siteOf n f sc ho pa po).toList.isEmpty && ((siteOf n f sc ho pa po).toList == (siteOf n f sc2 ho2 pa2 po2).toList))) := sameS_site n f sc ho pa po sc2 ho2 pa2 po2
  clear hf hs hG
  unfold urlV
  generalize sameS n f sc ho pa po sc2 ho2 pa2 po2 = R at *
  generalize siteOf n f sc ho pa po = T at *
  generalize siteOf n f sc2 ho2 pa2 po2 = T2 at *
  go_enter Tryd.func41, Tryd.ntmps41
  go_wp2_with fail
  refine (K1.out _ (HG.out.on (B0.out _ _)) (HSl.out.below (B0.out _ _))).mono ?_
  rintro e w1 ⟨rfl, hb1⟩
  have c0 : w1.cell? ⟨w.heap.size + 1, 0, none⟩ = some (.string sc2) := by rw [(bcell hb1).1 _ _ (by simp)]; simp
  have c1 : w1.cell? ⟨w.heap.size + 1, 1, none⟩ = some (.string ho2) := by rw [(bcell hb1).1 _ _ (by simp)]; simp
  have c2 : w1.cell? ⟨w.heap.size + 1, 2, none⟩ = some (.int .i64 po2) := by rw [(bcell hb1).1 _ _ (by simp)]; simp
  have c3 : w1.cell? ⟨w.heap.size + 1, 3, none⟩ = some (.string pa2) := by rw [(bcell hb1).1 _ _ (by simp)]; simp
  have B1 : Hid (Below w.heap.size w w1) := (B0.out _ _).trans (hb1.mono (by simp; omega))
  clear hb1
  cases hd : T.toList.isEmpty with
  | true =>
    have HR : Hid (R = false) := by show _ = _; rw [HE.out, hd]; rfl
    go_wp2
    go_ret
    exact ⟨ret_bool HR.out.symm, B1.out⟩
  | false =>
    have HR : Hid (R = (T.toList == T2.toList)) := by show _ = _; rw [HE.out, hd]; rfl
    go_wp2_with fail
    refine (K2.out _ (HG.out.on B1.out) (HSl.out.below B1.out)).mono ?_
    rintro e w2 ⟨rfl, hb2⟩
    go_wp2
    go_ret
    exact ⟨ret_bool HR.out.symm, B1.out.trans (hb2.mono B1.out.size)⟩
end Go.Proofs.YtmlacbjlafdenaaDoor

/- One site: either way round, from one to the next, and with a name ahead of a host. -/
namespace Go.Proofs.YtmlacbjlafdenaaDoor

theorem sameS_sym (n : Nat) (f : Nat → ByteArray) (sc ho pa : ByteArray) (po : Int) (sc2 ho2 pa2 : ByteArray) (po2 : Int) : sameS n f sc2 ho2 pa2 po2 sc ho pa po = sameS n f sc ho pa po sc2 ho2 pa2 po2 := by
  unfold sameS
  rw [Bool.beq_comm (a := (siteT n f sc2 ho2).toList)]
  cases rulesB n f <;> cases urlB sc ho pa po <;> cases urlB sc2 ho2 pa2 po2 <;> rfl
theorem sameS_trans {n : Nat} {f : Nat → ByteArray} {sc ho pa : ByteArray} {po : Int} {sc2 ho2 pa2 : ByteArray} {po2 : Int} {sc3 ho3 pa3 : ByteArray} {po3 : Int} (h1 : sameS n f sc ho pa po sc2 ho2 pa2 po2 = true) (h2 : sameS n f sc2 ho2 pa2 po2 sc3 ho3 pa3 po3 = true) : sameS n f sc ho pa po sc3 ho3 pa3 po3 = true := by
  unfold sameS at *
  simp only [Bool.and_eq_true, beq_iff_eq] at *
  exact ⟨⟨h1.1.1, h2.1.2⟩, h1.2.trans h2.2⟩
theorem sameS_yes {n : Nat} {f : Nat → ByteArray} {sc ho pa : ByteArray} {po : Int} {sc2 ho2 pa2 : ByteArray} {po2 : Int} (h0 : rulesB n f = true) (h1 : urlB sc ho pa po = true) (h2 : urlB sc2 ho2 pa2 po2 = true) (h : siteT n f sc ho = siteT n f sc2 ho2) : sameS n f sc ho pa po sc2 ho2 pa2 po2 = true := by
  unfold sameS
  rw [h0, h1, h2, h]; simp
theorem urlB_port {sc ho pa : ByteArray} {po po2 : Int} (h : urlB sc ho pa po = true) (h1 : 1 ≤ po2) (h2 : po2 ≤ 65535) : urlB sc ho pa po2 = true := by
  unfold urlB placeB at *
  simp only [Bool.and_eq_true, decide_eq_true_eq] at *
  exact ⟨⟨h.1.1, h1, h2⟩, h.2⟩
/-- a host with a name ahead -/
def subH (ho : ByteArray) : ByteArray := ⟨#[119, 119, 119, 46]⟩ ++ ho
theorem subH_split (ho : ByteArray) : splitB (subH ho) 46 = ⟨#[119, 119, 119]⟩ :: splitB ho 46 := by
  apply datas_inj
  have e1 := splitB_cut (subH ho) 46
  have e2 := splitB_cut ho 46
  have e46 : (46 : UInt8).toNat = 46 := rfl
  rw [e46] at e1 e2
  rw [e1, List.map_cons, e2]
  have e : (subH ho).data.toList = [119, 119, 119] ++ 46 :: ho.data.toList := by simp [subH]
  rw [e, cutL_app 46 ho.data.toList [119, 119, 119] (by decide)]
theorem tailN_shift (f : Nat → ByteArray) (d : Nat) : ∀ k, tailN f (d + 1) k = tailN (fun i => f (i + 1)) d k
  | 0 => rfl
  | k + 1 => by
    rw [tailN, tailN, tailN_shift f d k, show d + 1 + k = d + k + 1 by omega]
theorem part_cons (f : Nat → ByteArray) (d k : Nat) : partL f d (k + 1) = f d :: partL f (d + 1) k := by
  unfold partL
  rw [List.range_succ_eq_map, List.map_cons, List.map_map]
  congr 1
  apply List.map_congr_left
  intro i _
  show f (d + (i + 1)) = f (d + 1 + i)
  congr 1; omega
theorem join_more (x : List UInt8) (hx : 0 < x.length) : ∀ r : List (List UInt8), (Lib.join r [46]).length < (Lib.join (x :: r) [46]).length
  | [] => by rw [Lib.join_nil, Lib.join_one]; simpa using hx
  | y :: r => by
    rw [Lib.join_cons x, Lib.join_cons y]
    simp [Lib.joinTail]
    omega
theorem tail_more {f : Nat → ByteArray} {d k : Nat} (h : ∀ i, i < k + 1 → 0 < (f (d + i)).size) : (tailN f (d + 1) k).size < (tailN f d (k + 1)).size := by
  have e1 := tail_join (f := f) (d := d + 1) k (fun i hi => by have := h (i + 1) (by omega); rwa [show d + (i + 1) = d + 1 + i by omega] at this)
  have e2 := tail_join (f := f) (d := d) (k + 1) h
  rw [Lib.size_eq, Lib.size_eq, e1, e2, part_cons, List.map_cons]
  have h0 := h 0 (by omega)
  rw [Lib.size_eq] at h0
  exact join_more _ h0 _
/-- more labels, a longer text -/
theorem tail_grows {f : Nat → ByteArray} {M : Nat} (h : ∀ i, i < M → 0 < (f i).size) : ∀ j k, k + j ≤ M → 0 < j → (tailN f (M - k) k).size < (tailN f (M - (k + j)) (k + j)).size
  | 0, _, _, hj => absurd hj (by omega)
  | 1, k, hk, _ => by
    have := tail_more (f := f) (d := M - (k + 1)) (k := k) (fun i hi => h _ (by omega))
    rwa [show M - (k + 1) + 1 = M - k by omega] at this
  | j + 2, k, hk, _ => by
    have h1 := tail_grows h (j + 1) k (by omega) (by omega)
    have h2 := tail_more (f := f) (d := M - (k + (j + 2))) (k := k + (j + 1)) (fun i hi => h _ (by omega))
    rw [show M - (k + (j + 2)) + 1 = M - (k + (j + 1)) by omega] at h2
    exact Nat.lt_trans h1 h2
theorem tail_inj {f : Nat → ByteArray} {M c d : Nat} (h : ∀ i, i < M → 0 < (f i).size) (hc : c ≤ M) (hd : d ≤ M) (e : (tailN f (M - c) c).size = (tailN f (M - d) d).size) : c = d := by
  rcases Nat.lt_trichotomy c d with hlt | heq | hgt
  · have := tail_grows h (d - c) c (by omega) (by omega)
    rw [show c + (d - c) = d by omega] at this
    omega
  · exact heq
  · have := tail_grows h (c - d) d (by omega) (by omega)
    rw [show d + (c - d) = c by omega] at this
    omega
theorem tail_sub {ho : ByteArray} {k : Nat} (h : k ≤ (splitB ho 46).length) : tailN (atL (splitB (subH ho) 46)) ((splitB (subH ho) 46).length - k) k = tailN (atL (splitB ho 46)) ((splitB ho 46).length - k) k := by
  rw [subH_split, List.length_cons, show (splitB ho 46).length + 1 - k = (splitB ho 46).length - k + 1 by omega, tailN_shift]
  congr 1
theorem site_sub {n : Nat} {f : Nat → ByteArray} {sc ho : ByteArray} (h1 : hostB ho = true) (h2 : hostB (subH ho) = true) (hD : (sufD n f ho).toList.isEmpty = false) (hS : ((sufS n f ho).toList == (sufS n f (subH ho)).toList) = true) : siteT n f sc ho = siteT n f sc (subH ho) := by
  obtain ⟨hm1, -, -⟩ := host_labels h1
  obtain ⟨-, -, hp⟩ := host_labels h2
  have hl : (splitB (subH ho) 46).length = (splitB ho 46).length + 1 := by rw [subH_split, List.length_cons]
  have hc1 : sufC n f ho ≤ (splitB ho 46).length := countN_le n f _ hm1
  have hc2 : sufC n f (subH ho) ≤ (splitB (subH ho) 46).length := countN_le n f _ (by omega)
  have hlt : sufC n f ho < (splitB ho 46).length := by
    by_cases hx : sufC n f ho < (splitB ho 46).length
    · exact hx
    · exfalso
      rw [sufD, if_neg hx] at hD
      simp [Lib.toList_data] at hD
  have e : sufS n f ho = sufS n f (subH ho) := by
    apply bytes_ext
    rw [beq_iff_eq, Lib.toList_data, Lib.toList_data] at hS
    exact hS
  have ec : sufC n f ho = sufC n f (subH ho) := by
    refine tail_inj (f := atL (splitB (subH ho) 46)) (M := (splitB (subH ho) 46).length) (fun i hi => (hp i hi).1) (by omega) hc2 ?_
    rw [tail_sub hc1]
    have e1 : (sufS n f ho).size = (sufS n f (subH ho)).size := by rw [e]
    exact e1
  have ed : sufD n f (subH ho) = sufD n f ho := by
    unfold sufD
    rw [← ec, if_pos hlt, if_pos (by omega)]
    exact tail_sub (by omega)
  unfold siteT siteD
  rw [ed, hD]
  simp
open Go.RowKit in
theorem specSuffix_right (v : Value) (n B : Nat) (f : Nat → ByteArray) (s : ByteArray) (w : World) (hs : SliceS w B v n f) (l1 : n ≤ 1048576) (hf : ∀ i, i < n → (f i).size ≤ 1048576) (h0 : rulesB n f = true) (h1 : hostB s = true) :
    Calls Tryd.prog 46 #[v, .string s] w fun e w' => e = .returned (.agg #[.string (sufS n f s), .string (sufD n f s)]) ∧ Below w.heap.size w w' := by
  have e : sufOf n f s = (sufS n f s, sufD n f s) := by rw [sufOf, if_pos ⟨h0, h1⟩]
  have h := specSuffix_any v n B f s w hs l1 hf
  rw [e] at h; exact h
set_option maxRecDepth 100000 in
theorem field_suffix (a b : ByteArray) (W : World) : Sem.run Tryd.prog (Instr.field 62 (.agg #[.string a, .string b]) 0) W = .ok (.string a) W := by kernel_rfl
end Go.Proofs.YtmlacbjlafdenaaDoor

/- What a list of cells holds, kept by whatever leaves old blocks as they were. -/
namespace Go.Proofs.YtmlacbjlafdenaaDoor
open Go.RowKit
theorem cell_in {W : World} {p : Addr} {v : Value} (h : W.cell? p = some v) : p.block < W.heap.size := by
  by_cases hb : p.block < W.heap.size
  · exact hb
  · exfalso
    simp [World.cell?, Array.getElem?_eq_none (show W.heap.size ≤ p.block by omega)] at h
/-- what these cells hold -/
def Cells (W : World) : List (Addr × Value) → Prop
  | [] => True
  | p :: L => W.cell? p.1 = some p.2 ∧ Cells W L
theorem Cells.below {W W' : World} : ∀ {L : List (Addr × Value)}, Cells W L → Below W.heap.size W W' → Cells W' L
  | [], _, _ => trivial
  | _ :: _, h, hb => ⟨(@Below.cell _ _ _ hb _ (cell_in h.1)).trans h.1, Cells.below h.2 hb⟩
theorem Cells.join {W : World} : ∀ {L M : List (Addr × Value)}, Cells W L → Cells W M → Cells W (L ++ M)
  | [], _, _, h => h
  | _ :: _, _, h, k => ⟨h.1, Cells.join h.2 k⟩
/-- a slice of texts, wherever it lies -/
def SliceH (w : World) (v : Value) (n : Nat) (f : Nat → ByteArray) : Prop := Hid (SliceS w 0 v n f)
theorem SliceH.out {w : World} {v : Value} {n : Nat} {f : Nat → ByteArray} (h : SliceH w v n f) : SliceS w 0 v n f := Hid.out h
theorem strip {w : World} {B n : Nat} {v : Value} {f : Nat → ByteArray} (h : SliceS w B v n f) : SliceH w v n f := by
  obtain ⟨p, cap, rfl, h⟩ := h
  exact (⟨p, cap, rfl, fun hn => by obtain ⟨g, e, _, r⟩ := h hn; exact ⟨g, e, Nat.zero_le _, r⟩⟩ : SliceS w 0 _ n f)
theorem SliceH.below {w w' : World} {v : Value} {n : Nat} {f : Nat → ByteArray} (h : SliceH w v n f) (hb : Below w.heap.size w w') : SliceH w' v n f := SliceS.below h.out hb
end Go.Proofs.YtmlacbjlafdenaaDoor

/- The walk of the specification's SameSite. -/
namespace Go.Proofs.YtmlacbjlafdenaaDoor
open Go.RowKit

set_option maxRecDepth 10000 in
set_option maxHeartbeats 8000000 in
theorem specSame_any (v : Value) (n B : Nat) (f : Nat → ByteArray) (sc ho pa : ByteArray) (po : Int) (sc2 ho2 pa2 : ByteArray) (po2 : Int) (w : World) (hs : SliceS w B v n f) (l1 : n ≤ 1048576) (hf : ∀ i, i < n → (f i).size ≤ 1048576) :
    Calls Tryd.prog 42 #[v, urlV sc ho pa po, urlV sc2 ho2 pa2 po2] w fun e w' => e = .returned (.bool (sameS n f sc ho pa po sc2 ho2 pa2 po2)) ∧ Below w.heap.size w w' := by
  have KR : Hid (∀ W, Below w.heap.size w W → Calls Tryd.prog 45 #[v] W fun e w' => e = .returned (.bool (rulesB n f)) ∧ Below W.heap.size W w') := fun W a => specRules_any v n B f W (hs.below a) l1 hf
  have KU : Hid (∀ W, Calls Tryd.prog 22 #[.agg #[.string sc, .string ho, .int .i64 po, .string pa]] W fun e w' => e = .returned (.bool (urlB sc ho pa po)) ∧ Below W.heap.size W w') := fun W => specUrlRight_any sc ho pa po W
  have KV : Hid (∀ W, Calls Tryd.prog 22 #[.agg #[.string sc2, .string ho2, .int .i64 po2, .string pa2]] W fun e w' => e = .returned (.bool (urlB sc2 ho2 pa2 po2)) ∧ Below W.heap.size W w') := fun W => specUrlRight_any sc2 ho2 pa2 po2 W
  have KS0 : Hid (rulesB n f = true → urlB sc ho pa po = true → ∀ W, Below w.heap.size w W → Calls Tryd.prog 78 #[v, .agg #[.string sc, .string ho, .int .i64 po, .string pa]] W fun e w' => e = .returned (.string (siteT n f sc ho)) ∧ Below W.heap.size W w') := fun a b W c => specSite_any v n B f sc ho pa po W (hs.below c) l1 (rulesB_parts a).2 (urlB_parts b).1 (urlB_parts b).2.1
  have KT0 : Hid (rulesB n f = true → urlB sc2 ho2 pa2 po2 = true → ∀ W, Below w.heap.size w W → Calls Tryd.prog 78 #[v, .agg #[.string sc2, .string ho2, .int .i64 po2, .string pa2]] W fun e w' => e = .returned (.string (siteT n f sc2 ho2)) ∧ Below W.heap.size W w') := fun a b W c => specSite_any v n B f sc2 ho2 pa2 po2 W (hs.below c) l1 (rulesB_parts a).2 (urlB_parts b).1 (urlB_parts b).2.1
  have HE : Hid (sameS n f sc ho pa po sc2 ho2 pa2 po2 = (rulesB n f && urlB sc ho pa po && urlB sc2 ho2 pa2 po2 && ((siteT n f sc ho).toList == (siteT n f sc2 ho2).toList))) := rfl
  have HR20 : Hid (rulesB n f = true → n ≤ 20) := fun a => (rulesB_parts a).1
  obtain ⟨p, cap, rfl, -⟩ := hs
  clear hf
  unfold urlV
  generalize sameS n f sc ho pa po sc2 ho2 pa2 po2 = R at *
  generalize siteT n f sc ho = T at *
  generalize siteT n f sc2 ho2 = T2 at *
  generalize rulesB n f = rb at *
  generalize urlB sc ho pa po = ua at *
  generalize urlB sc2 ho2 pa2 po2 = ub at *
  have HB0 : Hid (∀ t t2 : TypeId, Below w.heap.size w ((w.alloc (.cells #[.string sc, .string ho, .int .i64 po, .string pa] t)).alloc (.cells #[.string sc2, .string ho2, .int .i64 po2, .string pa2] t2))) := fun t t2 => ((Below.refl _ _).alloc (Nat.le_refl _) _).alloc (by simp) _
  by_cases h400 : 400 < n
  · have q : decide ((n : Int) ≤ 400) = false := by rw [decide_eq_false_iff_not]; omega
    have HR : Hid (R = false) := by
      show _ = _
      cases rb with
      | false => rw [HE.out]; rfl
      | true => have := HR20.out rfl; omega
    clear KR KU KV KS0 KT0 HE HR20
    go_enter Tryd.func42, Tryd.ntmps42
    go_wp2_with fail
    have B0 : Hid (Below w.heap.size w ((w.alloc (.cells #[.string sc, .string ho, .int .i64 po, .string pa] 35)).alloc (.cells #[.string sc2, .string ho2, .int .i64 po2, .string pa2] 35))) := HB0.out _ _
    have z0 : w.heap.size + 2 ≤ ((w.alloc (.cells #[.string sc, .string ho, .int .i64 po, .string pa] 35)).alloc (.cells #[.string sc2, .string ho2, .int .i64 po2, .string pa2] 35)).heap.size := by simp
    have p00 : ((w.alloc (.cells #[.string sc, .string ho, .int .i64 po, .string pa] 35)).alloc (.cells #[.string sc2, .string ho2, .int .i64 po2, .string pa2] 35)).cell? ⟨w.heap.size, 0, none⟩ = some (.string sc) := by simp
    have p01 : ((w.alloc (.cells #[.string sc, .string ho, .int .i64 po, .string pa] 35)).alloc (.cells #[.string sc2, .string ho2, .int .i64 po2, .string pa2] 35)).cell? ⟨w.heap.size, 1, none⟩ = some (.string ho) := by simp
    have p02 : ((w.alloc (.cells #[.string sc, .string ho, .int .i64 po, .string pa] 35)).alloc (.cells #[.string sc2, .string ho2, .int .i64 po2, .string pa2] 35)).cell? ⟨w.heap.size, 2, none⟩ = some (.int .i64 po) := by simp
    have p03 : ((w.alloc (.cells #[.string sc, .string ho, .int .i64 po, .string pa] 35)).alloc (.cells #[.string sc2, .string ho2, .int .i64 po2, .string pa2] 35)).cell? ⟨w.heap.size, 3, none⟩ = some (.string pa) := by simp
    have p04 : ((w.alloc (.cells #[.string sc, .string ho, .int .i64 po, .string pa] 35)).alloc (.cells #[.string sc2, .string ho2, .int .i64 po2, .string pa2] 35)).cell? ⟨w.heap.size + 1, 0, none⟩ = some (.string sc2) := by simp
    have p05 : ((w.alloc (.cells #[.string sc, .string ho, .int .i64 po, .string pa] 35)).alloc (.cells #[.string sc2, .string ho2, .int .i64 po2, .string pa2] 35)).cell? ⟨w.heap.size + 1, 1, none⟩ = some (.string ho2) := by simp
    have p06 : ((w.alloc (.cells #[.string sc, .string ho, .int .i64 po, .string pa] 35)).alloc (.cells #[.string sc2, .string ho2, .int .i64 po2, .string pa2] 35)).cell? ⟨w.heap.size + 1, 2, none⟩ = some (.int .i64 po2) := by simp
    have p07 : ((w.alloc (.cells #[.string sc, .string ho, .int .i64 po, .string pa] 35)).alloc (.cells #[.string sc2, .string ho2, .int .i64 po2, .string pa2] 35)).cell? ⟨w.heap.size + 1, 3, none⟩ = some (.string pa2) := by simp
    generalize ((w.alloc (.cells #[.string sc, .string ho, .int .i64 po, .string pa] 35)).alloc (.cells #[.string sc2, .string ho2, .int .i64 po2, .string pa2] 35)) = w0 at *
    refine wp_region_held_drew (S := (fun w' => w.heap.size + 2 ≤ w'.heap.size ∧ w'.cell? ⟨w.heap.size, 0, none⟩ = some (.string sc) ∧ w'.cell? ⟨w.heap.size, 1, none⟩ = some (.string ho) ∧ w'.cell? ⟨w.heap.size, 2, none⟩ = some (.int .i64 po) ∧ w'.cell? ⟨w.heap.size, 3, none⟩ = some (.string pa) ∧ w'.cell? ⟨w.heap.size + 1, 0, none⟩ = some (.string sc2) ∧ w'.cell? ⟨w.heap.size + 1, 1, none⟩ = some (.string ho2) ∧ w'.cell? ⟨w.heap.size + 1, 2, none⟩ = some (.int .i64 po2) ∧ w'.cell? ⟨w.heap.size + 1, 3, none⟩ = some (.string pa2))) (by kernel_rfl) ?_ (fun hH0 => ?_)
    · (try dsimp only)
      go_keep
    refine wpAnyH_take (i := 0) (oi := { dst := some 7, op := Op.move (Operand.tmp 0), type := 43, pos := "l03_site.go:146", after := #[], guard := none }) (v := ?va0) rfl (by kernel_rfl) (by kernel_rfl) (by kernel_rfl) (fun _ _ _ h => h) (Or.inl ⟨by rfl, ?hya0⟩) (by assumption) ?resta0
    case hya0 =>
      intro w hSw
      (try dsimp only at hSw)
      go_simp
      try with_reducible rfl
    try simp only [Act.put, List.setIfInBounds_toArray, List.set_cons_zero, List.set_cons_succ]
    refine wpAnyH_take (i := 1) (oi := { dst := some 8, op := Op.call { callee := Callee.builtin Builtin.len, args := #[Operand.tmp 7], argTypes := #[43] }, type := 3, pos := "l03_site.go:146", after := #[{ on := 0, ground := Ground.data }], guard := none }) (v := ?va1) rfl (by kernel_rfl) (by kernel_rfl) (by kernel_rfl) (fun _ _ _ h => h) (Or.inl ⟨by rfl, ?hya1⟩) (by assumption) ?resta1
    case hya1 =>
      intro w hSw
      (try dsimp only at hSw)
      go_simp
      try with_reducible rfl
    try simp only [Act.put, List.setIfInBounds_toArray, List.set_cons_zero, List.set_cons_succ]
    refine wpAnyH_take (i := 2) (oi := { dst := some 9, op := Op.binOp BinOp.leq 3 (Operand.tmp 8) (Operand.const (Value.int IntKind.i64 400)) 3, type := 4, pos := "l03_site.go:146", after := #[{ on := 1, ground := Ground.data }], guard := none }) (v := ?va2) rfl (by kernel_rfl) (by kernel_rfl) (by kernel_rfl) (fun _ _ _ h => h) (Or.inl ⟨by rfl, ?hya2⟩) (by assumption) ?resta2
    case hya2 =>
      intro w hSw
      (try dsimp only at hSw)
      go_simp
      try with_reducible rfl
    try simp only [Act.put, List.setIfInBounds_toArray, List.set_cons_zero, List.set_cons_succ]
    refine wpAnyH_take (i := 3) (oi := { dst := some 10, op := Op.move (Operand.tmp 9), type := 4, pos := "l03_site.go:146", after := #[{ on := 2, ground := Ground.data }], guard := none }) (v := ?va3) rfl (by kernel_rfl) (by kernel_rfl) (by kernel_rfl) (fun _ _ _ h => h) (Or.inl ⟨by rfl, ?hya3⟩) (by assumption) ?resta3
    case hya3 =>
      intro w hSw
      (try dsimp only at hSw)
      go_simp
      try with_reducible rfl
    try simp only [Act.put, List.setIfInBounds_toArray, List.set_cons_zero, List.set_cons_succ]
    refine wpAnyH_take (i := 4) (oi := { dst := some 11, op := Op.move (Operand.tmp 0), type := 43, pos := "l03_site.go:146", after := #[{ on := 3, ground := Ground.guard }], guard := some (3, true) }) (v := undef) rfl (by kernel_rfl) (by kernel_rfl) (by kernel_rfl) (fun _ _ _ h => h) (Or.inr ⟨by rfl, rfl⟩) (by assumption) ?_
    try simp only [Act.put, List.setIfInBounds_toArray, List.set_cons_zero, List.set_cons_succ]
    refine wpAnyH_take (i := 5) (oi := { dst := some 12, op := Op.call { callee := Callee.value (Operand.func 45), args := #[Operand.tmp 11], argTypes := #[43] }, type := 4, pos := "l03_site.go:146", after := #[{ on := 4, ground := Ground.data }, { on := 3, ground := Ground.chain }, { on := 3, ground := Ground.guard }], guard := some (3, true) }) (v := undef) rfl (by kernel_rfl) (by kernel_rfl) (by kernel_rfl) (fun _ _ _ h => h) (Or.inr ⟨by rfl, rfl⟩) (by assumption) ?_
    try simp only [Act.put, List.setIfInBounds_toArray, List.set_cons_zero, List.set_cons_succ]
    refine wpAnyH_take (i := 6) (oi := { dst := some 13, op := Op.pick (Operand.tmp 10) (Operand.tmp 12) (Operand.const (Value.bool false)), type := 4, pos := "l03_site.go:146", after := #[{ on := 3, ground := Ground.data }, { on := 5, ground := Ground.data }], guard := none }) (v := ?va6) rfl (by kernel_rfl) (by kernel_rfl) (by kernel_rfl) (fun _ _ _ h => h) (Or.inl ⟨by rfl, ?hya6⟩) (by assumption) ?resta6
    case hya6 =>
      intro w hSw
      (try dsimp only at hSw)
      go_simp
      try with_reducible rfl
    try simp only [Act.put, List.setIfInBounds_toArray, List.set_cons_zero, List.set_cons_succ]
    refine wpAnyH_take (i := 7) (oi := { dst := some 14, op := Op.move (Operand.tmp 13), type := 4, pos := "l03_site.go:146", after := #[{ on := 6, ground := Ground.data }, { on := 5, ground := Ground.chain }], guard := none }) (v := ?va7) rfl (by kernel_rfl) (by kernel_rfl) (by kernel_rfl) (fun _ _ _ h => h) (Or.inl ⟨by rfl, ?hya7⟩) (by assumption) ?resta7
    case hya7 =>
      intro w hSw
      (try dsimp only at hSw)
      go_simp
      try with_reducible rfl
    try simp only [Act.put, List.setIfInBounds_toArray, List.set_cons_zero, List.set_cons_succ]
    refine wpAnyH_take (i := 8) (oi := { dst := some 15, op := Op.load 35 (Operand.tmp 4), type := 35, pos := "l03_site.go:146", after := #[{ on := 7, ground := Ground.guard }], guard := some (7, true) }) (v := undef) rfl (by kernel_rfl) (by kernel_rfl) (by kernel_rfl) (fun _ _ _ h => h) (Or.inr ⟨by rfl, rfl⟩) (by assumption) ?_
    try simp only [Act.put, List.setIfInBounds_toArray, List.set_cons_zero, List.set_cons_succ]
    refine wpAnyH_take (i := 9) (oi := { dst := some 16, op := Op.call { callee := Callee.value (Operand.func 22), args := #[Operand.tmp 15], argTypes := #[35] }, type := 4, pos := "l03_site.go:146", after := #[{ on := 8, ground := Ground.data }, { on := 7, ground := Ground.chain }, { on := 7, ground := Ground.guard }], guard := some (7, true) }) (v := undef) rfl (by kernel_rfl) (by kernel_rfl) (by kernel_rfl) (fun _ _ _ h => h) (Or.inr ⟨by rfl, rfl⟩) (by assumption) ?_
    try simp only [Act.put, List.setIfInBounds_toArray, List.set_cons_zero, List.set_cons_succ]
    refine wpAnyH_take (i := 10) (oi := { dst := some 17, op := Op.pick (Operand.tmp 14) (Operand.tmp 16) (Operand.const (Value.bool false)), type := 4, pos := "l03_site.go:146", after := #[{ on := 7, ground := Ground.data }, { on := 9, ground := Ground.data }], guard := none }) (v := ?va10) rfl (by kernel_rfl) (by kernel_rfl) (by kernel_rfl) (fun _ _ _ h => h) (Or.inl ⟨by rfl, ?hya10⟩) (by assumption) ?resta10
    case hya10 =>
      intro w hSw
      (try dsimp only at hSw)
      go_simp
      try with_reducible rfl
    try simp only [Act.put, List.setIfInBounds_toArray, List.set_cons_zero, List.set_cons_succ]
    refine wpAnyH_take (i := 11) (oi := { dst := some 18, op := Op.move (Operand.tmp 17), type := 4, pos := "l03_site.go:146", after := #[{ on := 10, ground := Ground.data }, { on := 9, ground := Ground.chain }], guard := none }) (v := ?va11) rfl (by kernel_rfl) (by kernel_rfl) (by kernel_rfl) (fun _ _ _ h => h) (Or.inl ⟨by rfl, ?hya11⟩) (by assumption) ?resta11
    case hya11 =>
      intro w hSw
      (try dsimp only at hSw)
      go_simp
      try with_reducible rfl
    try simp only [Act.put, List.setIfInBounds_toArray, List.set_cons_zero, List.set_cons_succ]
    refine wpAnyH_take (i := 12) (oi := { dst := some 19, op := Op.load 35 (Operand.tmp 5), type := 35, pos := "l03_site.go:146", after := #[{ on := 11, ground := Ground.guard }], guard := some (11, true) }) (v := undef) rfl (by kernel_rfl) (by kernel_rfl) (by kernel_rfl) (fun _ _ _ h => h) (Or.inr ⟨by rfl, rfl⟩) (by assumption) ?_
    try simp only [Act.put, List.setIfInBounds_toArray, List.set_cons_zero, List.set_cons_succ]
    refine wpAnyH_take (i := 13) (oi := { dst := some 20, op := Op.call { callee := Callee.value (Operand.func 22), args := #[Operand.tmp 19], argTypes := #[35] }, type := 4, pos := "l03_site.go:146", after := #[{ on := 12, ground := Ground.data }, { on := 11, ground := Ground.chain }, { on := 11, ground := Ground.guard }], guard := some (11, true) }) (v := undef) rfl (by kernel_rfl) (by kernel_rfl) (by kernel_rfl) (fun _ _ _ h => h) (Or.inr ⟨by rfl, rfl⟩) (by assumption) ?_
    try simp only [Act.put, List.setIfInBounds_toArray, List.set_cons_zero, List.set_cons_succ]
    refine wpAnyH_take (i := 14) (oi := { dst := some 21, op := Op.pick (Operand.tmp 18) (Operand.tmp 20) (Operand.const (Value.bool false)), type := 4, pos := "l03_site.go:146", after := #[{ on := 11, ground := Ground.data }, { on := 13, ground := Ground.data }], guard := none }) (v := ?va14) rfl (by kernel_rfl) (by kernel_rfl) (by kernel_rfl) (fun _ _ _ h => h) (Or.inl ⟨by rfl, ?hya14⟩) (by assumption) ?resta14
    case hya14 =>
      intro w hSw
      (try dsimp only at hSw)
      go_simp
      try with_reducible rfl
    try simp only [Act.put, List.setIfInBounds_toArray, List.set_cons_zero, List.set_cons_succ]
    refine wpAnyH_take (i := 15) (oi := { dst := some 22, op := Op.move (Operand.tmp 21), type := 4, pos := "l03_site.go:146", after := #[{ on := 14, ground := Ground.data }, { on := 13, ground := Ground.chain }], guard := none }) (v := ?va15) rfl (by kernel_rfl) (by kernel_rfl) (by kernel_rfl) (fun _ _ _ h => h) (Or.inl ⟨by rfl, ?hya15⟩) (by assumption) ?resta15
    case hya15 =>
      intro w hSw
      (try dsimp only at hSw)
      go_simp
      try with_reducible rfl
    try simp only [Act.put, List.setIfInBounds_toArray, List.set_cons_zero, List.set_cons_succ]
    refine wpAnyH_take (i := 16) (oi := { dst := some 23, op := Op.move (Operand.tmp 0), type := 43, pos := "l03_site.go:146", after := #[{ on := 15, ground := Ground.guard }], guard := some (15, true) }) (v := undef) rfl (by kernel_rfl) (by kernel_rfl) (by kernel_rfl) (fun _ _ _ h => h) (Or.inr ⟨by rfl, rfl⟩) (by assumption) ?_
    try simp only [Act.put, List.setIfInBounds_toArray, List.set_cons_zero, List.set_cons_succ]
    refine wpAnyH_take (i := 17) (oi := { dst := some 24, op := Op.load 35 (Operand.tmp 4), type := 35, pos := "l03_site.go:146", after := #[{ on := 15, ground := Ground.guard }], guard := some (15, true) }) (v := undef) rfl (by kernel_rfl) (by kernel_rfl) (by kernel_rfl) (fun _ _ _ h => h) (Or.inr ⟨by rfl, rfl⟩) (by assumption) ?_
    try simp only [Act.put, List.setIfInBounds_toArray, List.set_cons_zero, List.set_cons_succ]
    refine wpAnyH_take (i := 18) (oi := { dst := some 25, op := Op.call { callee := Callee.value (Operand.func 78), args := #[Operand.tmp 23, Operand.tmp 24], argTypes := #[43, 35] }, type := 9, pos := "l03_site.go:146", after := #[{ on := 16, ground := Ground.data }, { on := 17, ground := Ground.data }, { on := 15, ground := Ground.chain }, { on := 15, ground := Ground.guard }], guard := some (15, true) }) (v := undef) rfl (by kernel_rfl) (by kernel_rfl) (by kernel_rfl) (fun _ _ _ h => h) (Or.inr ⟨by rfl, rfl⟩) (by assumption) ?_
    try simp only [Act.put, List.setIfInBounds_toArray, List.set_cons_zero, List.set_cons_succ]
    refine wpAnyH_take (i := 19) (oi := { dst := some 26, op := Op.move (Operand.tmp 0), type := 43, pos := "l03_site.go:146", after := #[{ on := 15, ground := Ground.guard }], guard := some (15, true) }) (v := undef) rfl (by kernel_rfl) (by kernel_rfl) (by kernel_rfl) (fun _ _ _ h => h) (Or.inr ⟨by rfl, rfl⟩) (by assumption) ?_
    try simp only [Act.put, List.setIfInBounds_toArray, List.set_cons_zero, List.set_cons_succ]
    refine wpAnyH_take (i := 20) (oi := { dst := some 27, op := Op.load 35 (Operand.tmp 5), type := 35, pos := "l03_site.go:146", after := #[{ on := 15, ground := Ground.guard }], guard := some (15, true) }) (v := undef) rfl (by kernel_rfl) (by kernel_rfl) (by kernel_rfl) (fun _ _ _ h => h) (Or.inr ⟨by rfl, rfl⟩) (by assumption) ?_
    try simp only [Act.put, List.setIfInBounds_toArray, List.set_cons_zero, List.set_cons_succ]
    refine wpAnyH_take (i := 21) (oi := { dst := some 28, op := Op.call { callee := Callee.value (Operand.func 78), args := #[Operand.tmp 26, Operand.tmp 27], argTypes := #[43, 35] }, type := 9, pos := "l03_site.go:146", after := #[{ on := 19, ground := Ground.data }, { on := 20, ground := Ground.data }, { on := 18, ground := Ground.chain }, { on := 15, ground := Ground.guard }], guard := some (15, true) }) (v := undef) rfl (by kernel_rfl) (by kernel_rfl) (by kernel_rfl) (fun _ _ _ h => h) (Or.inr ⟨by rfl, rfl⟩) (by assumption) ?_
    try simp only [Act.put, List.setIfInBounds_toArray, List.set_cons_zero, List.set_cons_succ]
    refine wpAnyH_take (i := 22) (oi := { dst := some 29, op := Op.binOp BinOp.eql 9 (Operand.tmp 25) (Operand.tmp 28) 9, type := 4, pos := "l03_site.go:146", after := #[{ on := 18, ground := Ground.data }, { on := 21, ground := Ground.data }, { on := 15, ground := Ground.guard }], guard := some (15, true) }) (v := undef) rfl (by kernel_rfl) (by kernel_rfl) (by kernel_rfl) (fun _ _ _ h => h) (Or.inr ⟨by rfl, rfl⟩) (by assumption) ?_
    try simp only [Act.put, List.setIfInBounds_toArray, List.set_cons_zero, List.set_cons_succ]
    refine wpAnyH_take (i := 23) (oi := { dst := some 30, op := Op.pick (Operand.tmp 22) (Operand.tmp 29) (Operand.const (Value.bool false)), type := 4, pos := "l03_site.go:146", after := #[{ on := 15, ground := Ground.data }, { on := 22, ground := Ground.data }], guard := none }) (v := ?va23) rfl (by kernel_rfl) (by kernel_rfl) (by kernel_rfl) (fun _ _ _ h => h) (Or.inl ⟨by rfl, ?hya23⟩) (by assumption) ?resta23
    case hya23 =>
      intro w hSw
      (try dsimp only at hSw)
      go_simp
      try with_reducible rfl
    try simp only [Act.put, List.setIfInBounds_toArray, List.set_cons_zero, List.set_cons_succ]
    refine wpAnyH_take (i := 24) (oi := { dst := some 6, op := Op.assign (Operand.tmp 30), type := 4, pos := "l03_site.go:146", after := #[{ on := 23, ground := Ground.data }, { on := 21, ground := Ground.chain }, { on := 0, ground := Ground.phase }, { on := 1, ground := Ground.phase }, { on := 2, ground := Ground.phase }, { on := 3, ground := Ground.phase }, { on := 4, ground := Ground.phase }, { on := 5, ground := Ground.phase }, { on := 6, ground := Ground.phase }, { on := 7, ground := Ground.phase }, { on := 8, ground := Ground.phase }, { on := 9, ground := Ground.phase }, { on := 10, ground := Ground.phase }, { on := 11, ground := Ground.phase }, { on := 12, ground := Ground.phase }, { on := 13, ground := Ground.phase }, { on := 14, ground := Ground.phase }, { on := 15, ground := Ground.phase }, { on := 16, ground := Ground.phase }, { on := 17, ground := Ground.phase }, { on := 18, ground := Ground.phase }, { on := 19, ground := Ground.phase }, { on := 20, ground := Ground.phase }, { on := 21, ground := Ground.phase }, { on := 22, ground := Ground.phase }, { on := 23, ground := Ground.phase }], guard := none }) (v := ?va24) rfl (by kernel_rfl) (by kernel_rfl) (by kernel_rfl) (fun _ _ _ h => h) (Or.inl ⟨by rfl, ?hya24⟩) (by assumption) ?resta24
    case hya24 =>
      intro w hSw
      (try dsimp only at hSw)
      go_simp
      try with_reducible rfl
    try simp only [Act.put, List.setIfInBounds_toArray, List.set_cons_zero, List.set_cons_succ]
    refine wpAnyH_done (by kernel_rfl) ?_ _
    go_wp2
    go_ret
    exact ⟨ret_bool (by rw [HR.out]), B0.out.drew⟩
  have q : decide ((n : Int) ≤ 400) = true := by rw [decide_eq_true_iff]; omega
  cases rb with
  | false =>
    have HR : Hid (R = false) := by show _ = _; rw [HE.out]; rfl
    clear KU KV KS0 KT0 HE HR20
    go_enter Tryd.func42, Tryd.ntmps42
    go_wp2_with fail
    have B0 : Hid (Below w.heap.size w ((w.alloc (.cells #[.string sc, .string ho, .int .i64 po, .string pa] 35)).alloc (.cells #[.string sc2, .string ho2, .int .i64 po2, .string pa2] 35))) := HB0.out _ _
    have z0 : w.heap.size + 2 ≤ ((w.alloc (.cells #[.string sc, .string ho, .int .i64 po, .string pa] 35)).alloc (.cells #[.string sc2, .string ho2, .int .i64 po2, .string pa2] 35)).heap.size := by simp
    have p00 : ((w.alloc (.cells #[.string sc, .string ho, .int .i64 po, .string pa] 35)).alloc (.cells #[.string sc2, .string ho2, .int .i64 po2, .string pa2] 35)).cell? ⟨w.heap.size, 0, none⟩ = some (.string sc) := by simp
    have p01 : ((w.alloc (.cells #[.string sc, .string ho, .int .i64 po, .string pa] 35)).alloc (.cells #[.string sc2, .string ho2, .int .i64 po2, .string pa2] 35)).cell? ⟨w.heap.size, 1, none⟩ = some (.string ho) := by simp
    have p02 : ((w.alloc (.cells #[.string sc, .string ho, .int .i64 po, .string pa] 35)).alloc (.cells #[.string sc2, .string ho2, .int .i64 po2, .string pa2] 35)).cell? ⟨w.heap.size, 2, none⟩ = some (.int .i64 po) := by simp
    have p03 : ((w.alloc (.cells #[.string sc, .string ho, .int .i64 po, .string pa] 35)).alloc (.cells #[.string sc2, .string ho2, .int .i64 po2, .string pa2] 35)).cell? ⟨w.heap.size, 3, none⟩ = some (.string pa) := by simp
    have p04 : ((w.alloc (.cells #[.string sc, .string ho, .int .i64 po, .string pa] 35)).alloc (.cells #[.string sc2, .string ho2, .int .i64 po2, .string pa2] 35)).cell? ⟨w.heap.size + 1, 0, none⟩ = some (.string sc2) := by simp
    have p05 : ((w.alloc (.cells #[.string sc, .string ho, .int .i64 po, .string pa] 35)).alloc (.cells #[.string sc2, .string ho2, .int .i64 po2, .string pa2] 35)).cell? ⟨w.heap.size + 1, 1, none⟩ = some (.string ho2) := by simp
    have p06 : ((w.alloc (.cells #[.string sc, .string ho, .int .i64 po, .string pa] 35)).alloc (.cells #[.string sc2, .string ho2, .int .i64 po2, .string pa2] 35)).cell? ⟨w.heap.size + 1, 2, none⟩ = some (.int .i64 po2) := by simp
    have p07 : ((w.alloc (.cells #[.string sc, .string ho, .int .i64 po, .string pa] 35)).alloc (.cells #[.string sc2, .string ho2, .int .i64 po2, .string pa2] 35)).cell? ⟨w.heap.size + 1, 3, none⟩ = some (.string pa2) := by simp
    generalize ((w.alloc (.cells #[.string sc, .string ho, .int .i64 po, .string pa] 35)).alloc (.cells #[.string sc2, .string ho2, .int .i64 po2, .string pa2] 35)) = w0 at *
    refine wp_region_held_drew (S := (fun w' => w.heap.size + 2 ≤ w'.heap.size ∧ w'.cell? ⟨w.heap.size, 0, none⟩ = some (.string sc) ∧ w'.cell? ⟨w.heap.size, 1, none⟩ = some (.string ho) ∧ w'.cell? ⟨w.heap.size, 2, none⟩ = some (.int .i64 po) ∧ w'.cell? ⟨w.heap.size, 3, none⟩ = some (.string pa) ∧ w'.cell? ⟨w.heap.size + 1, 0, none⟩ = some (.string sc2) ∧ w'.cell? ⟨w.heap.size + 1, 1, none⟩ = some (.string ho2) ∧ w'.cell? ⟨w.heap.size + 1, 2, none⟩ = some (.int .i64 po2) ∧ w'.cell? ⟨w.heap.size + 1, 3, none⟩ = some (.string pa2))) (by kernel_rfl) ?_ (fun hH0 => ?_)
    · (try dsimp only)
      go_keep
    refine wpAnyH_take (i := 0) (oi := { dst := some 7, op := Op.move (Operand.tmp 0), type := 43, pos := "l03_site.go:146", after := #[], guard := none }) (v := ?vb0) rfl (by kernel_rfl) (by kernel_rfl) (by kernel_rfl) (fun _ _ _ h => h) (Or.inl ⟨by rfl, ?hyb0⟩) (by assumption) ?restb0
    case hyb0 =>
      intro w hSw
      (try dsimp only at hSw)
      go_simp
      try with_reducible rfl
    try simp only [Act.put, List.setIfInBounds_toArray, List.set_cons_zero, List.set_cons_succ]
    refine wpAnyH_take (i := 1) (oi := { dst := some 8, op := Op.call { callee := Callee.builtin Builtin.len, args := #[Operand.tmp 7], argTypes := #[43] }, type := 3, pos := "l03_site.go:146", after := #[{ on := 0, ground := Ground.data }], guard := none }) (v := ?vb1) rfl (by kernel_rfl) (by kernel_rfl) (by kernel_rfl) (fun _ _ _ h => h) (Or.inl ⟨by rfl, ?hyb1⟩) (by assumption) ?restb1
    case hyb1 =>
      intro w hSw
      (try dsimp only at hSw)
      go_simp
      try with_reducible rfl
    try simp only [Act.put, List.setIfInBounds_toArray, List.set_cons_zero, List.set_cons_succ]
    refine wpAnyH_take (i := 2) (oi := { dst := some 9, op := Op.binOp BinOp.leq 3 (Operand.tmp 8) (Operand.const (Value.int IntKind.i64 400)) 3, type := 4, pos := "l03_site.go:146", after := #[{ on := 1, ground := Ground.data }], guard := none }) (v := ?vb2) rfl (by kernel_rfl) (by kernel_rfl) (by kernel_rfl) (fun _ _ _ h => h) (Or.inl ⟨by rfl, ?hyb2⟩) (by assumption) ?restb2
    case hyb2 =>
      intro w hSw
      (try dsimp only at hSw)
      go_simp
      try with_reducible rfl
    try simp only [Act.put, List.setIfInBounds_toArray, List.set_cons_zero, List.set_cons_succ]
    refine wpAnyH_take (i := 3) (oi := { dst := some 10, op := Op.move (Operand.tmp 9), type := 4, pos := "l03_site.go:146", after := #[{ on := 2, ground := Ground.data }], guard := none }) (v := ?vb3) rfl (by kernel_rfl) (by kernel_rfl) (by kernel_rfl) (fun _ _ _ h => h) (Or.inl ⟨by rfl, ?hyb3⟩) (by assumption) ?restb3
    case hyb3 =>
      intro w hSw
      (try dsimp only at hSw)
      go_simp
      try with_reducible rfl
    try simp only [Act.put, List.setIfInBounds_toArray, List.set_cons_zero, List.set_cons_succ]
    refine wpAnyH_take (i := 4) (oi := { dst := some 11, op := Op.move (Operand.tmp 0), type := 43, pos := "l03_site.go:146", after := #[{ on := 3, ground := Ground.guard }], guard := some (3, true) }) (v := ?vb4) rfl (by kernel_rfl) (by kernel_rfl) (by kernel_rfl) (fun _ _ _ h => h) (Or.inl ⟨by rfl, ?hyb4⟩) (by assumption) ?restb4
    case hyb4 =>
      intro w hSw
      (try dsimp only at hSw)
      go_simp
      try with_reducible rfl
    try simp only [Act.put, List.setIfInBounds_toArray, List.set_cons_zero, List.set_cons_succ]
    refine wpAnyH_ready (rs := [5]) (by kernel_rfl) (by simp) ?_
    refine AllReadyH.cons (o := { dst := some 12, op := Op.call { callee := Callee.value (Operand.func 45), args := #[Operand.tmp 11], argTypes := #[43] }, type := 4, pos := "l03_site.go:146", after := #[{ on := 4, ground := Ground.data }, { on := 3, ground := Ground.chain }, { on := 3, ground := Ground.guard }], guard := some (3, true) }) rfl (fun K hK => ?_) AllReadyH.nil
    go_simp
    (go_at_call 45; refine (KR.out _ (B0.out.trans (Below.drew (Below.refl _ _)))).mono ?_; rintro e w1 ⟨rfl, hb1⟩; have T1 := Cells.below (L := [(⟨w.heap.size, 0, none⟩, .string sc), (⟨w.heap.size, 1, none⟩, .string ho), (⟨w.heap.size, 2, none⟩, .int .i64 po), (⟨w.heap.size, 3, none⟩, .string pa), (⟨w.heap.size + 1, 0, none⟩, .string sc2), (⟨w.heap.size + 1, 1, none⟩, .string ho2), (⟨w.heap.size + 1, 2, none⟩, .int .i64 po2), (⟨w.heap.size + 1, 3, none⟩, .string pa2)]) (by simp only [Cells]; go_keep) hb1; simp only [Cells] at T1; obtain ⟨p10, p11, p12, p13, p14, p15, p16, p17, -⟩ := T1; have z1 : w.heap.size + 2 ≤ w1.heap.size := Nat.le_trans z0 hb1.size; have B1 : Hid (Below w.heap.size w w1) := (B0.out.trans (Below.drew (Below.refl _ _))).trans (hb1.mono (by have := B0.out.size; simpa using this)))
    try (go_wp2_with fail)
    refine hK.out _ _ ?_ (fun hH1 => ?_)
    · (try dsimp only)
      go_keep
    clear hK K hH0
    try simp only [Act.put, List.setIfInBounds_toArray, List.set_cons_zero, List.set_cons_succ]
    refine wpAnyH_take (i := 6) (oi := { dst := some 13, op := Op.pick (Operand.tmp 10) (Operand.tmp 12) (Operand.const (Value.bool false)), type := 4, pos := "l03_site.go:146", after := #[{ on := 3, ground := Ground.data }, { on := 5, ground := Ground.data }], guard := none }) (v := ?vb6) rfl (by kernel_rfl) (by kernel_rfl) (by kernel_rfl) (fun _ _ _ h => h) (Or.inl ⟨by rfl, ?hyb6⟩) (by assumption) ?restb6
    case hyb6 =>
      intro w hSw
      (try dsimp only at hSw)
      go_simp
      try with_reducible rfl
    try simp only [Act.put, List.setIfInBounds_toArray, List.set_cons_zero, List.set_cons_succ]
    refine wpAnyH_take (i := 7) (oi := { dst := some 14, op := Op.move (Operand.tmp 13), type := 4, pos := "l03_site.go:146", after := #[{ on := 6, ground := Ground.data }, { on := 5, ground := Ground.chain }], guard := none }) (v := ?vb7) rfl (by kernel_rfl) (by kernel_rfl) (by kernel_rfl) (fun _ _ _ h => h) (Or.inl ⟨by rfl, ?hyb7⟩) (by assumption) ?restb7
    case hyb7 =>
      intro w hSw
      (try dsimp only at hSw)
      go_simp
      try with_reducible rfl
    try simp only [Act.put, List.setIfInBounds_toArray, List.set_cons_zero, List.set_cons_succ]
    refine wpAnyH_take (i := 8) (oi := { dst := some 15, op := Op.load 35 (Operand.tmp 4), type := 35, pos := "l03_site.go:146", after := #[{ on := 7, ground := Ground.guard }], guard := some (7, true) }) (v := undef) rfl (by kernel_rfl) (by kernel_rfl) (by kernel_rfl) (fun _ _ _ h => h) (Or.inr ⟨by rfl, rfl⟩) (by assumption) ?_
    try simp only [Act.put, List.setIfInBounds_toArray, List.set_cons_zero, List.set_cons_succ]
    refine wpAnyH_take (i := 9) (oi := { dst := some 16, op := Op.call { callee := Callee.value (Operand.func 22), args := #[Operand.tmp 15], argTypes := #[35] }, type := 4, pos := "l03_site.go:146", after := #[{ on := 8, ground := Ground.data }, { on := 7, ground := Ground.chain }, { on := 7, ground := Ground.guard }], guard := some (7, true) }) (v := undef) rfl (by kernel_rfl) (by kernel_rfl) (by kernel_rfl) (fun _ _ _ h => h) (Or.inr ⟨by rfl, rfl⟩) (by assumption) ?_
    try simp only [Act.put, List.setIfInBounds_toArray, List.set_cons_zero, List.set_cons_succ]
    refine wpAnyH_take (i := 10) (oi := { dst := some 17, op := Op.pick (Operand.tmp 14) (Operand.tmp 16) (Operand.const (Value.bool false)), type := 4, pos := "l03_site.go:146", after := #[{ on := 7, ground := Ground.data }, { on := 9, ground := Ground.data }], guard := none }) (v := ?vb10) rfl (by kernel_rfl) (by kernel_rfl) (by kernel_rfl) (fun _ _ _ h => h) (Or.inl ⟨by rfl, ?hyb10⟩) (by assumption) ?restb10
    case hyb10 =>
      intro w hSw
      (try dsimp only at hSw)
      go_simp
      try with_reducible rfl
    try simp only [Act.put, List.setIfInBounds_toArray, List.set_cons_zero, List.set_cons_succ]
    refine wpAnyH_take (i := 11) (oi := { dst := some 18, op := Op.move (Operand.tmp 17), type := 4, pos := "l03_site.go:146", after := #[{ on := 10, ground := Ground.data }, { on := 9, ground := Ground.chain }], guard := none }) (v := ?vb11) rfl (by kernel_rfl) (by kernel_rfl) (by kernel_rfl) (fun _ _ _ h => h) (Or.inl ⟨by rfl, ?hyb11⟩) (by assumption) ?restb11
    case hyb11 =>
      intro w hSw
      (try dsimp only at hSw)
      go_simp
      try with_reducible rfl
    try simp only [Act.put, List.setIfInBounds_toArray, List.set_cons_zero, List.set_cons_succ]
    refine wpAnyH_take (i := 12) (oi := { dst := some 19, op := Op.load 35 (Operand.tmp 5), type := 35, pos := "l03_site.go:146", after := #[{ on := 11, ground := Ground.guard }], guard := some (11, true) }) (v := undef) rfl (by kernel_rfl) (by kernel_rfl) (by kernel_rfl) (fun _ _ _ h => h) (Or.inr ⟨by rfl, rfl⟩) (by assumption) ?_
    try simp only [Act.put, List.setIfInBounds_toArray, List.set_cons_zero, List.set_cons_succ]
    refine wpAnyH_take (i := 13) (oi := { dst := some 20, op := Op.call { callee := Callee.value (Operand.func 22), args := #[Operand.tmp 19], argTypes := #[35] }, type := 4, pos := "l03_site.go:146", after := #[{ on := 12, ground := Ground.data }, { on := 11, ground := Ground.chain }, { on := 11, ground := Ground.guard }], guard := some (11, true) }) (v := undef) rfl (by kernel_rfl) (by kernel_rfl) (by kernel_rfl) (fun _ _ _ h => h) (Or.inr ⟨by rfl, rfl⟩) (by assumption) ?_
    try simp only [Act.put, List.setIfInBounds_toArray, List.set_cons_zero, List.set_cons_succ]
    refine wpAnyH_take (i := 14) (oi := { dst := some 21, op := Op.pick (Operand.tmp 18) (Operand.tmp 20) (Operand.const (Value.bool false)), type := 4, pos := "l03_site.go:146", after := #[{ on := 11, ground := Ground.data }, { on := 13, ground := Ground.data }], guard := none }) (v := ?vb14) rfl (by kernel_rfl) (by kernel_rfl) (by kernel_rfl) (fun _ _ _ h => h) (Or.inl ⟨by rfl, ?hyb14⟩) (by assumption) ?restb14
    case hyb14 =>
      intro w hSw
      (try dsimp only at hSw)
      go_simp
      try with_reducible rfl
    try simp only [Act.put, List.setIfInBounds_toArray, List.set_cons_zero, List.set_cons_succ]
    refine wpAnyH_take (i := 15) (oi := { dst := some 22, op := Op.move (Operand.tmp 21), type := 4, pos := "l03_site.go:146", after := #[{ on := 14, ground := Ground.data }, { on := 13, ground := Ground.chain }], guard := none }) (v := ?vb15) rfl (by kernel_rfl) (by kernel_rfl) (by kernel_rfl) (fun _ _ _ h => h) (Or.inl ⟨by rfl, ?hyb15⟩) (by assumption) ?restb15
    case hyb15 =>
      intro w hSw
      (try dsimp only at hSw)
      go_simp
      try with_reducible rfl
    try simp only [Act.put, List.setIfInBounds_toArray, List.set_cons_zero, List.set_cons_succ]
    refine wpAnyH_take (i := 16) (oi := { dst := some 23, op := Op.move (Operand.tmp 0), type := 43, pos := "l03_site.go:146", after := #[{ on := 15, ground := Ground.guard }], guard := some (15, true) }) (v := undef) rfl (by kernel_rfl) (by kernel_rfl) (by kernel_rfl) (fun _ _ _ h => h) (Or.inr ⟨by rfl, rfl⟩) (by assumption) ?_
    try simp only [Act.put, List.setIfInBounds_toArray, List.set_cons_zero, List.set_cons_succ]
    refine wpAnyH_take (i := 17) (oi := { dst := some 24, op := Op.load 35 (Operand.tmp 4), type := 35, pos := "l03_site.go:146", after := #[{ on := 15, ground := Ground.guard }], guard := some (15, true) }) (v := undef) rfl (by kernel_rfl) (by kernel_rfl) (by kernel_rfl) (fun _ _ _ h => h) (Or.inr ⟨by rfl, rfl⟩) (by assumption) ?_
    try simp only [Act.put, List.setIfInBounds_toArray, List.set_cons_zero, List.set_cons_succ]
    refine wpAnyH_take (i := 18) (oi := { dst := some 25, op := Op.call { callee := Callee.value (Operand.func 78), args := #[Operand.tmp 23, Operand.tmp 24], argTypes := #[43, 35] }, type := 9, pos := "l03_site.go:146", after := #[{ on := 16, ground := Ground.data }, { on := 17, ground := Ground.data }, { on := 15, ground := Ground.chain }, { on := 15, ground := Ground.guard }], guard := some (15, true) }) (v := undef) rfl (by kernel_rfl) (by kernel_rfl) (by kernel_rfl) (fun _ _ _ h => h) (Or.inr ⟨by rfl, rfl⟩) (by assumption) ?_
    try simp only [Act.put, List.setIfInBounds_toArray, List.set_cons_zero, List.set_cons_succ]
    refine wpAnyH_take (i := 19) (oi := { dst := some 26, op := Op.move (Operand.tmp 0), type := 43, pos := "l03_site.go:146", after := #[{ on := 15, ground := Ground.guard }], guard := some (15, true) }) (v := undef) rfl (by kernel_rfl) (by kernel_rfl) (by kernel_rfl) (fun _ _ _ h => h) (Or.inr ⟨by rfl, rfl⟩) (by assumption) ?_
    try simp only [Act.put, List.setIfInBounds_toArray, List.set_cons_zero, List.set_cons_succ]
    refine wpAnyH_take (i := 20) (oi := { dst := some 27, op := Op.load 35 (Operand.tmp 5), type := 35, pos := "l03_site.go:146", after := #[{ on := 15, ground := Ground.guard }], guard := some (15, true) }) (v := undef) rfl (by kernel_rfl) (by kernel_rfl) (by kernel_rfl) (fun _ _ _ h => h) (Or.inr ⟨by rfl, rfl⟩) (by assumption) ?_
    try simp only [Act.put, List.setIfInBounds_toArray, List.set_cons_zero, List.set_cons_succ]
    refine wpAnyH_take (i := 21) (oi := { dst := some 28, op := Op.call { callee := Callee.value (Operand.func 78), args := #[Operand.tmp 26, Operand.tmp 27], argTypes := #[43, 35] }, type := 9, pos := "l03_site.go:146", after := #[{ on := 19, ground := Ground.data }, { on := 20, ground := Ground.data }, { on := 18, ground := Ground.chain }, { on := 15, ground := Ground.guard }], guard := some (15, true) }) (v := undef) rfl (by kernel_rfl) (by kernel_rfl) (by kernel_rfl) (fun _ _ _ h => h) (Or.inr ⟨by rfl, rfl⟩) (by assumption) ?_
    try simp only [Act.put, List.setIfInBounds_toArray, List.set_cons_zero, List.set_cons_succ]
    refine wpAnyH_take (i := 22) (oi := { dst := some 29, op := Op.binOp BinOp.eql 9 (Operand.tmp 25) (Operand.tmp 28) 9, type := 4, pos := "l03_site.go:146", after := #[{ on := 18, ground := Ground.data }, { on := 21, ground := Ground.data }, { on := 15, ground := Ground.guard }], guard := some (15, true) }) (v := undef) rfl (by kernel_rfl) (by kernel_rfl) (by kernel_rfl) (fun _ _ _ h => h) (Or.inr ⟨by rfl, rfl⟩) (by assumption) ?_
    try simp only [Act.put, List.setIfInBounds_toArray, List.set_cons_zero, List.set_cons_succ]
    refine wpAnyH_take (i := 23) (oi := { dst := some 30, op := Op.pick (Operand.tmp 22) (Operand.tmp 29) (Operand.const (Value.bool false)), type := 4, pos := "l03_site.go:146", after := #[{ on := 15, ground := Ground.data }, { on := 22, ground := Ground.data }], guard := none }) (v := ?vb23) rfl (by kernel_rfl) (by kernel_rfl) (by kernel_rfl) (fun _ _ _ h => h) (Or.inl ⟨by rfl, ?hyb23⟩) (by assumption) ?restb23
    case hyb23 =>
      intro w hSw
      (try dsimp only at hSw)
      go_simp
      try with_reducible rfl
    try simp only [Act.put, List.setIfInBounds_toArray, List.set_cons_zero, List.set_cons_succ]
    refine wpAnyH_take (i := 24) (oi := { dst := some 6, op := Op.assign (Operand.tmp 30), type := 4, pos := "l03_site.go:146", after := #[{ on := 23, ground := Ground.data }, { on := 21, ground := Ground.chain }, { on := 0, ground := Ground.phase }, { on := 1, ground := Ground.phase }, { on := 2, ground := Ground.phase }, { on := 3, ground := Ground.phase }, { on := 4, ground := Ground.phase }, { on := 5, ground := Ground.phase }, { on := 6, ground := Ground.phase }, { on := 7, ground := Ground.phase }, { on := 8, ground := Ground.phase }, { on := 9, ground := Ground.phase }, { on := 10, ground := Ground.phase }, { on := 11, ground := Ground.phase }, { on := 12, ground := Ground.phase }, { on := 13, ground := Ground.phase }, { on := 14, ground := Ground.phase }, { on := 15, ground := Ground.phase }, { on := 16, ground := Ground.phase }, { on := 17, ground := Ground.phase }, { on := 18, ground := Ground.phase }, { on := 19, ground := Ground.phase }, { on := 20, ground := Ground.phase }, { on := 21, ground := Ground.phase }, { on := 22, ground := Ground.phase }, { on := 23, ground := Ground.phase }], guard := none }) (v := ?vb24) rfl (by kernel_rfl) (by kernel_rfl) (by kernel_rfl) (fun _ _ _ h => h) (Or.inl ⟨by rfl, ?hyb24⟩) (by assumption) ?restb24
    case hyb24 =>
      intro w hSw
      (try dsimp only at hSw)
      go_simp
      try with_reducible rfl
    try simp only [Act.put, List.setIfInBounds_toArray, List.set_cons_zero, List.set_cons_succ]
    refine wpAnyH_done (by kernel_rfl) ?_ _
    go_wp2
    go_ret
    exact ⟨ret_bool (by rw [HR.out]), B1.out⟩
  | true =>
    cases ua with
    | false =>
      have HR : Hid (R = false) := by show _ = _; rw [HE.out]; rfl
      clear KV KS0 KT0 HE HR20
      go_enter Tryd.func42, Tryd.ntmps42
      go_wp2_with fail
      have B0 : Hid (Below w.heap.size w ((w.alloc (.cells #[.string sc, .string ho, .int .i64 po, .string pa] 35)).alloc (.cells #[.string sc2, .string ho2, .int .i64 po2, .string pa2] 35))) := HB0.out _ _
      have z0 : w.heap.size + 2 ≤ ((w.alloc (.cells #[.string sc, .string ho, .int .i64 po, .string pa] 35)).alloc (.cells #[.string sc2, .string ho2, .int .i64 po2, .string pa2] 35)).heap.size := by simp
      have p00 : ((w.alloc (.cells #[.string sc, .string ho, .int .i64 po, .string pa] 35)).alloc (.cells #[.string sc2, .string ho2, .int .i64 po2, .string pa2] 35)).cell? ⟨w.heap.size, 0, none⟩ = some (.string sc) := by simp
      have p01 : ((w.alloc (.cells #[.string sc, .string ho, .int .i64 po, .string pa] 35)).alloc (.cells #[.string sc2, .string ho2, .int .i64 po2, .string pa2] 35)).cell? ⟨w.heap.size, 1, none⟩ = some (.string ho) := by simp
      have p02 : ((w.alloc (.cells #[.string sc, .string ho, .int .i64 po, .string pa] 35)).alloc (.cells #[.string sc2, .string ho2, .int .i64 po2, .string pa2] 35)).cell? ⟨w.heap.size, 2, none⟩ = some (.int .i64 po) := by simp
      have p03 : ((w.alloc (.cells #[.string sc, .string ho, .int .i64 po, .string pa] 35)).alloc (.cells #[.string sc2, .string ho2, .int .i64 po2, .string pa2] 35)).cell? ⟨w.heap.size, 3, none⟩ = some (.string pa) := by simp
      have p04 : ((w.alloc (.cells #[.string sc, .string ho, .int .i64 po, .string pa] 35)).alloc (.cells #[.string sc2, .string ho2, .int .i64 po2, .string pa2] 35)).cell? ⟨w.heap.size + 1, 0, none⟩ = some (.string sc2) := by simp
      have p05 : ((w.alloc (.cells #[.string sc, .string ho, .int .i64 po, .string pa] 35)).alloc (.cells #[.string sc2, .string ho2, .int .i64 po2, .string pa2] 35)).cell? ⟨w.heap.size + 1, 1, none⟩ = some (.string ho2) := by simp
      have p06 : ((w.alloc (.cells #[.string sc, .string ho, .int .i64 po, .string pa] 35)).alloc (.cells #[.string sc2, .string ho2, .int .i64 po2, .string pa2] 35)).cell? ⟨w.heap.size + 1, 2, none⟩ = some (.int .i64 po2) := by simp
      have p07 : ((w.alloc (.cells #[.string sc, .string ho, .int .i64 po, .string pa] 35)).alloc (.cells #[.string sc2, .string ho2, .int .i64 po2, .string pa2] 35)).cell? ⟨w.heap.size + 1, 3, none⟩ = some (.string pa2) := by simp
      generalize ((w.alloc (.cells #[.string sc, .string ho, .int .i64 po, .string pa] 35)).alloc (.cells #[.string sc2, .string ho2, .int .i64 po2, .string pa2] 35)) = w0 at *
      refine wp_region_held_drew (S := (fun w' => w.heap.size + 2 ≤ w'.heap.size ∧ w'.cell? ⟨w.heap.size, 0, none⟩ = some (.string sc) ∧ w'.cell? ⟨w.heap.size, 1, none⟩ = some (.string ho) ∧ w'.cell? ⟨w.heap.size, 2, none⟩ = some (.int .i64 po) ∧ w'.cell? ⟨w.heap.size, 3, none⟩ = some (.string pa) ∧ w'.cell? ⟨w.heap.size + 1, 0, none⟩ = some (.string sc2) ∧ w'.cell? ⟨w.heap.size + 1, 1, none⟩ = some (.string ho2) ∧ w'.cell? ⟨w.heap.size + 1, 2, none⟩ = some (.int .i64 po2) ∧ w'.cell? ⟨w.heap.size + 1, 3, none⟩ = some (.string pa2))) (by kernel_rfl) ?_ (fun hH0 => ?_)
      · (try dsimp only)
        go_keep
      refine wpAnyH_take (i := 0) (oi := { dst := some 7, op := Op.move (Operand.tmp 0), type := 43, pos := "l03_site.go:146", after := #[], guard := none }) (v := ?vc0) rfl (by kernel_rfl) (by kernel_rfl) (by kernel_rfl) (fun _ _ _ h => h) (Or.inl ⟨by rfl, ?hyc0⟩) (by assumption) ?restc0
      case hyc0 =>
        intro w hSw
        (try dsimp only at hSw)
        go_simp
        try with_reducible rfl
      try simp only [Act.put, List.setIfInBounds_toArray, List.set_cons_zero, List.set_cons_succ]
      refine wpAnyH_take (i := 1) (oi := { dst := some 8, op := Op.call { callee := Callee.builtin Builtin.len, args := #[Operand.tmp 7], argTypes := #[43] }, type := 3, pos := "l03_site.go:146", after := #[{ on := 0, ground := Ground.data }], guard := none }) (v := ?vc1) rfl (by kernel_rfl) (by kernel_rfl) (by kernel_rfl) (fun _ _ _ h => h) (Or.inl ⟨by rfl, ?hyc1⟩) (by assumption) ?restc1
      case hyc1 =>
        intro w hSw
        (try dsimp only at hSw)
        go_simp
        try with_reducible rfl
      try simp only [Act.put, List.setIfInBounds_toArray, List.set_cons_zero, List.set_cons_succ]
      refine wpAnyH_take (i := 2) (oi := { dst := some 9, op := Op.binOp BinOp.leq 3 (Operand.tmp 8) (Operand.const (Value.int IntKind.i64 400)) 3, type := 4, pos := "l03_site.go:146", after := #[{ on := 1, ground := Ground.data }], guard := none }) (v := ?vc2) rfl (by kernel_rfl) (by kernel_rfl) (by kernel_rfl) (fun _ _ _ h => h) (Or.inl ⟨by rfl, ?hyc2⟩) (by assumption) ?restc2
      case hyc2 =>
        intro w hSw
        (try dsimp only at hSw)
        go_simp
        try with_reducible rfl
      try simp only [Act.put, List.setIfInBounds_toArray, List.set_cons_zero, List.set_cons_succ]
      refine wpAnyH_take (i := 3) (oi := { dst := some 10, op := Op.move (Operand.tmp 9), type := 4, pos := "l03_site.go:146", after := #[{ on := 2, ground := Ground.data }], guard := none }) (v := ?vc3) rfl (by kernel_rfl) (by kernel_rfl) (by kernel_rfl) (fun _ _ _ h => h) (Or.inl ⟨by rfl, ?hyc3⟩) (by assumption) ?restc3
      case hyc3 =>
        intro w hSw
        (try dsimp only at hSw)
        go_simp
        try with_reducible rfl
      try simp only [Act.put, List.setIfInBounds_toArray, List.set_cons_zero, List.set_cons_succ]
      refine wpAnyH_take (i := 4) (oi := { dst := some 11, op := Op.move (Operand.tmp 0), type := 43, pos := "l03_site.go:146", after := #[{ on := 3, ground := Ground.guard }], guard := some (3, true) }) (v := ?vc4) rfl (by kernel_rfl) (by kernel_rfl) (by kernel_rfl) (fun _ _ _ h => h) (Or.inl ⟨by rfl, ?hyc4⟩) (by assumption) ?restc4
      case hyc4 =>
        intro w hSw
        (try dsimp only at hSw)
        go_simp
        try with_reducible rfl
      try simp only [Act.put, List.setIfInBounds_toArray, List.set_cons_zero, List.set_cons_succ]
      refine wpAnyH_ready (rs := [5]) (by kernel_rfl) (by simp) ?_
      refine AllReadyH.cons (o := { dst := some 12, op := Op.call { callee := Callee.value (Operand.func 45), args := #[Operand.tmp 11], argTypes := #[43] }, type := 4, pos := "l03_site.go:146", after := #[{ on := 4, ground := Ground.data }, { on := 3, ground := Ground.chain }, { on := 3, ground := Ground.guard }], guard := some (3, true) }) rfl (fun K hK => ?_) AllReadyH.nil
      go_simp
      (go_at_call 45; refine (KR.out _ (B0.out.trans (Below.drew (Below.refl _ _)))).mono ?_; rintro e w1 ⟨rfl, hb1⟩; have T1 := Cells.below (L := [(⟨w.heap.size, 0, none⟩, .string sc), (⟨w.heap.size, 1, none⟩, .string ho), (⟨w.heap.size, 2, none⟩, .int .i64 po), (⟨w.heap.size, 3, none⟩, .string pa), (⟨w.heap.size + 1, 0, none⟩, .string sc2), (⟨w.heap.size + 1, 1, none⟩, .string ho2), (⟨w.heap.size + 1, 2, none⟩, .int .i64 po2), (⟨w.heap.size + 1, 3, none⟩, .string pa2)]) (by simp only [Cells]; go_keep) hb1; simp only [Cells] at T1; obtain ⟨p10, p11, p12, p13, p14, p15, p16, p17, -⟩ := T1; have z1 : w.heap.size + 2 ≤ w1.heap.size := Nat.le_trans z0 hb1.size; have B1 : Hid (Below w.heap.size w w1) := (B0.out.trans (Below.drew (Below.refl _ _))).trans (hb1.mono (by have := B0.out.size; simpa using this)))
      try (go_wp2_with fail)
      refine hK.out _ _ ?_ (fun hH1 => ?_)
      · (try dsimp only)
        go_keep
      clear hK K hH0
      try simp only [Act.put, List.setIfInBounds_toArray, List.set_cons_zero, List.set_cons_succ]
      refine wpAnyH_take (i := 6) (oi := { dst := some 13, op := Op.pick (Operand.tmp 10) (Operand.tmp 12) (Operand.const (Value.bool false)), type := 4, pos := "l03_site.go:146", after := #[{ on := 3, ground := Ground.data }, { on := 5, ground := Ground.data }], guard := none }) (v := ?vc6) rfl (by kernel_rfl) (by kernel_rfl) (by kernel_rfl) (fun _ _ _ h => h) (Or.inl ⟨by rfl, ?hyc6⟩) (by assumption) ?restc6
      case hyc6 =>
        intro w hSw
        (try dsimp only at hSw)
        go_simp
        try with_reducible rfl
      try simp only [Act.put, List.setIfInBounds_toArray, List.set_cons_zero, List.set_cons_succ]
      refine wpAnyH_take (i := 7) (oi := { dst := some 14, op := Op.move (Operand.tmp 13), type := 4, pos := "l03_site.go:146", after := #[{ on := 6, ground := Ground.data }, { on := 5, ground := Ground.chain }], guard := none }) (v := ?vc7) rfl (by kernel_rfl) (by kernel_rfl) (by kernel_rfl) (fun _ _ _ h => h) (Or.inl ⟨by rfl, ?hyc7⟩) (by assumption) ?restc7
      case hyc7 =>
        intro w hSw
        (try dsimp only at hSw)
        go_simp
        try with_reducible rfl
      try simp only [Act.put, List.setIfInBounds_toArray, List.set_cons_zero, List.set_cons_succ]
      refine wpAnyH_take (i := 8) (oi := { dst := some 15, op := Op.load 35 (Operand.tmp 4), type := 35, pos := "l03_site.go:146", after := #[{ on := 7, ground := Ground.guard }], guard := some (7, true) }) (v := ?vc8) rfl (by kernel_rfl) (by kernel_rfl) (by kernel_rfl) (fun _ _ _ h => h) (Or.inl ⟨by rfl, ?hyc8⟩) (by assumption) ?restc8
      case hyc8 =>
        intro w hSw
        (try dsimp only at hSw)
        go_simp
        try with_reducible rfl
      try simp only [Act.put, List.setIfInBounds_toArray, List.set_cons_zero, List.set_cons_succ]
      refine wpAnyH_ready (rs := [9]) (by kernel_rfl) (by simp) ?_
      refine AllReadyH.cons (o := { dst := some 16, op := Op.call { callee := Callee.value (Operand.func 22), args := #[Operand.tmp 15], argTypes := #[35] }, type := 4, pos := "l03_site.go:146", after := #[{ on := 8, ground := Ground.data }, { on := 7, ground := Ground.chain }, { on := 7, ground := Ground.guard }], guard := some (7, true) }) rfl (fun K hK => ?_) AllReadyH.nil
      go_simp
      (go_at_call 22; refine (KU.out _).mono ?_; rintro e w2 ⟨rfl, hb2⟩; have T2 := Cells.below (L := [(⟨w.heap.size, 0, none⟩, .string sc), (⟨w.heap.size, 1, none⟩, .string ho), (⟨w.heap.size, 2, none⟩, .int .i64 po), (⟨w.heap.size, 3, none⟩, .string pa), (⟨w.heap.size + 1, 0, none⟩, .string sc2), (⟨w.heap.size + 1, 1, none⟩, .string ho2), (⟨w.heap.size + 1, 2, none⟩, .int .i64 po2), (⟨w.heap.size + 1, 3, none⟩, .string pa2)]) (by simp only [Cells]; go_keep) hb2; simp only [Cells] at T2; obtain ⟨p20, p21, p22, p23, p24, p25, p26, p27, -⟩ := T2; have z2 : w.heap.size + 2 ≤ w2.heap.size := Nat.le_trans z1 hb2.size; have B2 : Hid (Below w.heap.size w w2) := B1.out.trans (hb2.mono B1.out.size); clear p10 p11 p12 p13 p14 p15 p16 p17 z1 hb1)
      try (go_wp2_with fail)
      refine hK.out _ _ ?_ (fun hH2 => ?_)
      · (try dsimp only)
        go_keep
      clear hK K hH1
      try simp only [Act.put, List.setIfInBounds_toArray, List.set_cons_zero, List.set_cons_succ]
      refine wpAnyH_take (i := 10) (oi := { dst := some 17, op := Op.pick (Operand.tmp 14) (Operand.tmp 16) (Operand.const (Value.bool false)), type := 4, pos := "l03_site.go:146", after := #[{ on := 7, ground := Ground.data }, { on := 9, ground := Ground.data }], guard := none }) (v := ?vc10) rfl (by kernel_rfl) (by kernel_rfl) (by kernel_rfl) (fun _ _ _ h => h) (Or.inl ⟨by rfl, ?hyc10⟩) (by assumption) ?restc10
      case hyc10 =>
        intro w hSw
        (try dsimp only at hSw)
        go_simp
        try with_reducible rfl
      try simp only [Act.put, List.setIfInBounds_toArray, List.set_cons_zero, List.set_cons_succ]
      refine wpAnyH_take (i := 11) (oi := { dst := some 18, op := Op.move (Operand.tmp 17), type := 4, pos := "l03_site.go:146", after := #[{ on := 10, ground := Ground.data }, { on := 9, ground := Ground.chain }], guard := none }) (v := ?vc11) rfl (by kernel_rfl) (by kernel_rfl) (by kernel_rfl) (fun _ _ _ h => h) (Or.inl ⟨by rfl, ?hyc11⟩) (by assumption) ?restc11
      case hyc11 =>
        intro w hSw
        (try dsimp only at hSw)
        go_simp
        try with_reducible rfl
      try simp only [Act.put, List.setIfInBounds_toArray, List.set_cons_zero, List.set_cons_succ]
      refine wpAnyH_take (i := 12) (oi := { dst := some 19, op := Op.load 35 (Operand.tmp 5), type := 35, pos := "l03_site.go:146", after := #[{ on := 11, ground := Ground.guard }], guard := some (11, true) }) (v := undef) rfl (by kernel_rfl) (by kernel_rfl) (by kernel_rfl) (fun _ _ _ h => h) (Or.inr ⟨by rfl, rfl⟩) (by assumption) ?_
      try simp only [Act.put, List.setIfInBounds_toArray, List.set_cons_zero, List.set_cons_succ]
      refine wpAnyH_take (i := 13) (oi := { dst := some 20, op := Op.call { callee := Callee.value (Operand.func 22), args := #[Operand.tmp 19], argTypes := #[35] }, type := 4, pos := "l03_site.go:146", after := #[{ on := 12, ground := Ground.data }, { on := 11, ground := Ground.chain }, { on := 11, ground := Ground.guard }], guard := some (11, true) }) (v := undef) rfl (by kernel_rfl) (by kernel_rfl) (by kernel_rfl) (fun _ _ _ h => h) (Or.inr ⟨by rfl, rfl⟩) (by assumption) ?_
      try simp only [Act.put, List.setIfInBounds_toArray, List.set_cons_zero, List.set_cons_succ]
      refine wpAnyH_take (i := 14) (oi := { dst := some 21, op := Op.pick (Operand.tmp 18) (Operand.tmp 20) (Operand.const (Value.bool false)), type := 4, pos := "l03_site.go:146", after := #[{ on := 11, ground := Ground.data }, { on := 13, ground := Ground.data }], guard := none }) (v := ?vc14) rfl (by kernel_rfl) (by kernel_rfl) (by kernel_rfl) (fun _ _ _ h => h) (Or.inl ⟨by rfl, ?hyc14⟩) (by assumption) ?restc14
      case hyc14 =>
        intro w hSw
        (try dsimp only at hSw)
        go_simp
        try with_reducible rfl
      try simp only [Act.put, List.setIfInBounds_toArray, List.set_cons_zero, List.set_cons_succ]
      refine wpAnyH_take (i := 15) (oi := { dst := some 22, op := Op.move (Operand.tmp 21), type := 4, pos := "l03_site.go:146", after := #[{ on := 14, ground := Ground.data }, { on := 13, ground := Ground.chain }], guard := none }) (v := ?vc15) rfl (by kernel_rfl) (by kernel_rfl) (by kernel_rfl) (fun _ _ _ h => h) (Or.inl ⟨by rfl, ?hyc15⟩) (by assumption) ?restc15
      case hyc15 =>
        intro w hSw
        (try dsimp only at hSw)
        go_simp
        try with_reducible rfl
      try simp only [Act.put, List.setIfInBounds_toArray, List.set_cons_zero, List.set_cons_succ]
      refine wpAnyH_take (i := 16) (oi := { dst := some 23, op := Op.move (Operand.tmp 0), type := 43, pos := "l03_site.go:146", after := #[{ on := 15, ground := Ground.guard }], guard := some (15, true) }) (v := undef) rfl (by kernel_rfl) (by kernel_rfl) (by kernel_rfl) (fun _ _ _ h => h) (Or.inr ⟨by rfl, rfl⟩) (by assumption) ?_
      try simp only [Act.put, List.setIfInBounds_toArray, List.set_cons_zero, List.set_cons_succ]
      refine wpAnyH_take (i := 17) (oi := { dst := some 24, op := Op.load 35 (Operand.tmp 4), type := 35, pos := "l03_site.go:146", after := #[{ on := 15, ground := Ground.guard }], guard := some (15, true) }) (v := undef) rfl (by kernel_rfl) (by kernel_rfl) (by kernel_rfl) (fun _ _ _ h => h) (Or.inr ⟨by rfl, rfl⟩) (by assumption) ?_
      try simp only [Act.put, List.setIfInBounds_toArray, List.set_cons_zero, List.set_cons_succ]
      refine wpAnyH_take (i := 18) (oi := { dst := some 25, op := Op.call { callee := Callee.value (Operand.func 78), args := #[Operand.tmp 23, Operand.tmp 24], argTypes := #[43, 35] }, type := 9, pos := "l03_site.go:146", after := #[{ on := 16, ground := Ground.data }, { on := 17, ground := Ground.data }, { on := 15, ground := Ground.chain }, { on := 15, ground := Ground.guard }], guard := some (15, true) }) (v := undef) rfl (by kernel_rfl) (by kernel_rfl) (by kernel_rfl) (fun _ _ _ h => h) (Or.inr ⟨by rfl, rfl⟩) (by assumption) ?_
      try simp only [Act.put, List.setIfInBounds_toArray, List.set_cons_zero, List.set_cons_succ]
      refine wpAnyH_take (i := 19) (oi := { dst := some 26, op := Op.move (Operand.tmp 0), type := 43, pos := "l03_site.go:146", after := #[{ on := 15, ground := Ground.guard }], guard := some (15, true) }) (v := undef) rfl (by kernel_rfl) (by kernel_rfl) (by kernel_rfl) (fun _ _ _ h => h) (Or.inr ⟨by rfl, rfl⟩) (by assumption) ?_
      try simp only [Act.put, List.setIfInBounds_toArray, List.set_cons_zero, List.set_cons_succ]
      refine wpAnyH_take (i := 20) (oi := { dst := some 27, op := Op.load 35 (Operand.tmp 5), type := 35, pos := "l03_site.go:146", after := #[{ on := 15, ground := Ground.guard }], guard := some (15, true) }) (v := undef) rfl (by kernel_rfl) (by kernel_rfl) (by kernel_rfl) (fun _ _ _ h => h) (Or.inr ⟨by rfl, rfl⟩) (by assumption) ?_
      try simp only [Act.put, List.setIfInBounds_toArray, List.set_cons_zero, List.set_cons_succ]
      refine wpAnyH_take (i := 21) (oi := { dst := some 28, op := Op.call { callee := Callee.value (Operand.func 78), args := #[Operand.tmp 26, Operand.tmp 27], argTypes := #[43, 35] }, type := 9, pos := "l03_site.go:146", after := #[{ on := 19, ground := Ground.data }, { on := 20, ground := Ground.data }, { on := 18, ground := Ground.chain }, { on := 15, ground := Ground.guard }], guard := some (15, true) }) (v := undef) rfl (by kernel_rfl) (by kernel_rfl) (by kernel_rfl) (fun _ _ _ h => h) (Or.inr ⟨by rfl, rfl⟩) (by assumption) ?_
      try simp only [Act.put, List.setIfInBounds_toArray, List.set_cons_zero, List.set_cons_succ]
      refine wpAnyH_take (i := 22) (oi := { dst := some 29, op := Op.binOp BinOp.eql 9 (Operand.tmp 25) (Operand.tmp 28) 9, type := 4, pos := "l03_site.go:146", after := #[{ on := 18, ground := Ground.data }, { on := 21, ground := Ground.data }, { on := 15, ground := Ground.guard }], guard := some (15, true) }) (v := undef) rfl (by kernel_rfl) (by kernel_rfl) (by kernel_rfl) (fun _ _ _ h => h) (Or.inr ⟨by rfl, rfl⟩) (by assumption) ?_
      try simp only [Act.put, List.setIfInBounds_toArray, List.set_cons_zero, List.set_cons_succ]
      refine wpAnyH_take (i := 23) (oi := { dst := some 30, op := Op.pick (Operand.tmp 22) (Operand.tmp 29) (Operand.const (Value.bool false)), type := 4, pos := "l03_site.go:146", after := #[{ on := 15, ground := Ground.data }, { on := 22, ground := Ground.data }], guard := none }) (v := ?vc23) rfl (by kernel_rfl) (by kernel_rfl) (by kernel_rfl) (fun _ _ _ h => h) (Or.inl ⟨by rfl, ?hyc23⟩) (by assumption) ?restc23
      case hyc23 =>
        intro w hSw
        (try dsimp only at hSw)
        go_simp
        try with_reducible rfl
      try simp only [Act.put, List.setIfInBounds_toArray, List.set_cons_zero, List.set_cons_succ]
      refine wpAnyH_take (i := 24) (oi := { dst := some 6, op := Op.assign (Operand.tmp 30), type := 4, pos := "l03_site.go:146", after := #[{ on := 23, ground := Ground.data }, { on := 21, ground := Ground.chain }, { on := 0, ground := Ground.phase }, { on := 1, ground := Ground.phase }, { on := 2, ground := Ground.phase }, { on := 3, ground := Ground.phase }, { on := 4, ground := Ground.phase }, { on := 5, ground := Ground.phase }, { on := 6, ground := Ground.phase }, { on := 7, ground := Ground.phase }, { on := 8, ground := Ground.phase }, { on := 9, ground := Ground.phase }, { on := 10, ground := Ground.phase }, { on := 11, ground := Ground.phase }, { on := 12, ground := Ground.phase }, { on := 13, ground := Ground.phase }, { on := 14, ground := Ground.phase }, { on := 15, ground := Ground.phase }, { on := 16, ground := Ground.phase }, { on := 17, ground := Ground.phase }, { on := 18, ground := Ground.phase }, { on := 19, ground := Ground.phase }, { on := 20, ground := Ground.phase }, { on := 21, ground := Ground.phase }, { on := 22, ground := Ground.phase }, { on := 23, ground := Ground.phase }], guard := none }) (v := ?vc24) rfl (by kernel_rfl) (by kernel_rfl) (by kernel_rfl) (fun _ _ _ h => h) (Or.inl ⟨by rfl, ?hyc24⟩) (by assumption) ?restc24
      case hyc24 =>
        intro w hSw
        (try dsimp only at hSw)
        go_simp
        try with_reducible rfl
      try simp only [Act.put, List.setIfInBounds_toArray, List.set_cons_zero, List.set_cons_succ]
      refine wpAnyH_done (by kernel_rfl) ?_ _
      go_wp2
      go_ret
      exact ⟨ret_bool (by rw [HR.out]), B2.out⟩
    | true =>
      cases ub with
      | false =>
        have HR : Hid (R = false) := by show _ = _; rw [HE.out]; rfl
        clear KS0 KT0 HE HR20
        go_enter Tryd.func42, Tryd.ntmps42
        go_wp2_with fail
        have B0 : Hid (Below w.heap.size w ((w.alloc (.cells #[.string sc, .string ho, .int .i64 po, .string pa] 35)).alloc (.cells #[.string sc2, .string ho2, .int .i64 po2, .string pa2] 35))) := HB0.out _ _
        have z0 : w.heap.size + 2 ≤ ((w.alloc (.cells #[.string sc, .string ho, .int .i64 po, .string pa] 35)).alloc (.cells #[.string sc2, .string ho2, .int .i64 po2, .string pa2] 35)).heap.size := by simp
        have p00 : ((w.alloc (.cells #[.string sc, .string ho, .int .i64 po, .string pa] 35)).alloc (.cells #[.string sc2, .string ho2, .int .i64 po2, .string pa2] 35)).cell? ⟨w.heap.size, 0, none⟩ = some (.string sc) := by simp
        have p01 : ((w.alloc (.cells #[.string sc, .string ho, .int .i64 po, .string pa] 35)).alloc (.cells #[.string sc2, .string ho2, .int .i64 po2, .string pa2] 35)).cell? ⟨w.heap.size, 1, none⟩ = some (.string ho) := by simp
        have p02 : ((w.alloc (.cells #[.string sc, .string ho, .int .i64 po, .string pa] 35)).alloc (.cells #[.string sc2, .string ho2, .int .i64 po2, .string pa2] 35)).cell? ⟨w.heap.size, 2, none⟩ = some (.int .i64 po) := by simp
        have p03 : ((w.alloc (.cells #[.string sc, .string ho, .int .i64 po, .string pa] 35)).alloc (.cells #[.string sc2, .string ho2, .int .i64 po2, .string pa2] 35)).cell? ⟨w.heap.size, 3, none⟩ = some (.string pa) := by simp
        have p04 : ((w.alloc (.cells #[.string sc, .string ho, .int .i64 po, .string pa] 35)).alloc (.cells #[.string sc2, .string ho2, .int .i64 po2, .string pa2] 35)).cell? ⟨w.heap.size + 1, 0, none⟩ = some (.string sc2) := by simp
        have p05 : ((w.alloc (.cells #[.string sc, .string ho, .int .i64 po, .string pa] 35)).alloc (.cells #[.string sc2, .string ho2, .int .i64 po2, .string pa2] 35)).cell? ⟨w.heap.size + 1, 1, none⟩ = some (.string ho2) := by simp
        have p06 : ((w.alloc (.cells #[.string sc, .string ho, .int .i64 po, .string pa] 35)).alloc (.cells #[.string sc2, .string ho2, .int .i64 po2, .string pa2] 35)).cell? ⟨w.heap.size + 1, 2, none⟩ = some (.int .i64 po2) := by simp
        have p07 : ((w.alloc (.cells #[.string sc, .string ho, .int .i64 po, .string pa] 35)).alloc (.cells #[.string sc2, .string ho2, .int .i64 po2, .string pa2] 35)).cell? ⟨w.heap.size + 1, 3, none⟩ = some (.string pa2) := by simp
        generalize ((w.alloc (.cells #[.string sc, .string ho, .int .i64 po, .string pa] 35)).alloc (.cells #[.string sc2, .string ho2, .int .i64 po2, .string pa2] 35)) = w0 at *
        refine wp_region_held_drew (S := (fun w' => w.heap.size + 2 ≤ w'.heap.size ∧ w'.cell? ⟨w.heap.size, 0, none⟩ = some (.string sc) ∧ w'.cell? ⟨w.heap.size, 1, none⟩ = some (.string ho) ∧ w'.cell? ⟨w.heap.size, 2, none⟩ = some (.int .i64 po) ∧ w'.cell? ⟨w.heap.size, 3, none⟩ = some (.string pa) ∧ w'.cell? ⟨w.heap.size + 1, 0, none⟩ = some (.string sc2) ∧ w'.cell? ⟨w.heap.size + 1, 1, none⟩ = some (.string ho2) ∧ w'.cell? ⟨w.heap.size + 1, 2, none⟩ = some (.int .i64 po2) ∧ w'.cell? ⟨w.heap.size + 1, 3, none⟩ = some (.string pa2))) (by kernel_rfl) ?_ (fun hH0 => ?_)
        · (try dsimp only)
          go_keep
        refine wpAnyH_take (i := 0) (oi := { dst := some 7, op := Op.move (Operand.tmp 0), type := 43, pos := "l03_site.go:146", after := #[], guard := none }) (v := ?vd0) rfl (by kernel_rfl) (by kernel_rfl) (by kernel_rfl) (fun _ _ _ h => h) (Or.inl ⟨by rfl, ?hyd0⟩) (by assumption) ?restd0
        case hyd0 =>
          intro w hSw
          (try dsimp only at hSw)
          go_simp
          try with_reducible rfl
        try simp only [Act.put, List.setIfInBounds_toArray, List.set_cons_zero, List.set_cons_succ]
        refine wpAnyH_take (i := 1) (oi := { dst := some 8, op := Op.call { callee := Callee.builtin Builtin.len, args := #[Operand.tmp 7], argTypes := #[43] }, type := 3, pos := "l03_site.go:146", after := #[{ on := 0, ground := Ground.data }], guard := none }) (v := ?vd1) rfl (by kernel_rfl) (by kernel_rfl) (by kernel_rfl) (fun _ _ _ h => h) (Or.inl ⟨by rfl, ?hyd1⟩) (by assumption) ?restd1
        case hyd1 =>
          intro w hSw
          (try dsimp only at hSw)
          go_simp
          try with_reducible rfl
        try simp only [Act.put, List.setIfInBounds_toArray, List.set_cons_zero, List.set_cons_succ]
        refine wpAnyH_take (i := 2) (oi := { dst := some 9, op := Op.binOp BinOp.leq 3 (Operand.tmp 8) (Operand.const (Value.int IntKind.i64 400)) 3, type := 4, pos := "l03_site.go:146", after := #[{ on := 1, ground := Ground.data }], guard := none }) (v := ?vd2) rfl (by kernel_rfl) (by kernel_rfl) (by kernel_rfl) (fun _ _ _ h => h) (Or.inl ⟨by rfl, ?hyd2⟩) (by assumption) ?restd2
        case hyd2 =>
          intro w hSw
          (try dsimp only at hSw)
          go_simp
          try with_reducible rfl
        try simp only [Act.put, List.setIfInBounds_toArray, List.set_cons_zero, List.set_cons_succ]
        refine wpAnyH_take (i := 3) (oi := { dst := some 10, op := Op.move (Operand.tmp 9), type := 4, pos := "l03_site.go:146", after := #[{ on := 2, ground := Ground.data }], guard := none }) (v := ?vd3) rfl (by kernel_rfl) (by kernel_rfl) (by kernel_rfl) (fun _ _ _ h => h) (Or.inl ⟨by rfl, ?hyd3⟩) (by assumption) ?restd3
        case hyd3 =>
          intro w hSw
          (try dsimp only at hSw)
          go_simp
          try with_reducible rfl
        try simp only [Act.put, List.setIfInBounds_toArray, List.set_cons_zero, List.set_cons_succ]
        refine wpAnyH_take (i := 4) (oi := { dst := some 11, op := Op.move (Operand.tmp 0), type := 43, pos := "l03_site.go:146", after := #[{ on := 3, ground := Ground.guard }], guard := some (3, true) }) (v := ?vd4) rfl (by kernel_rfl) (by kernel_rfl) (by kernel_rfl) (fun _ _ _ h => h) (Or.inl ⟨by rfl, ?hyd4⟩) (by assumption) ?restd4
        case hyd4 =>
          intro w hSw
          (try dsimp only at hSw)
          go_simp
          try with_reducible rfl
        try simp only [Act.put, List.setIfInBounds_toArray, List.set_cons_zero, List.set_cons_succ]
        refine wpAnyH_ready (rs := [5]) (by kernel_rfl) (by simp) ?_
        refine AllReadyH.cons (o := { dst := some 12, op := Op.call { callee := Callee.value (Operand.func 45), args := #[Operand.tmp 11], argTypes := #[43] }, type := 4, pos := "l03_site.go:146", after := #[{ on := 4, ground := Ground.data }, { on := 3, ground := Ground.chain }, { on := 3, ground := Ground.guard }], guard := some (3, true) }) rfl (fun K hK => ?_) AllReadyH.nil
        go_simp
        (go_at_call 45; refine (KR.out _ (B0.out.trans (Below.drew (Below.refl _ _)))).mono ?_; rintro e w1 ⟨rfl, hb1⟩; have T1 := Cells.below (L := [(⟨w.heap.size, 0, none⟩, .string sc), (⟨w.heap.size, 1, none⟩, .string ho), (⟨w.heap.size, 2, none⟩, .int .i64 po), (⟨w.heap.size, 3, none⟩, .string pa), (⟨w.heap.size + 1, 0, none⟩, .string sc2), (⟨w.heap.size + 1, 1, none⟩, .string ho2), (⟨w.heap.size + 1, 2, none⟩, .int .i64 po2), (⟨w.heap.size + 1, 3, none⟩, .string pa2)]) (by simp only [Cells]; go_keep) hb1; simp only [Cells] at T1; obtain ⟨p10, p11, p12, p13, p14, p15, p16, p17, -⟩ := T1; have z1 : w.heap.size + 2 ≤ w1.heap.size := Nat.le_trans z0 hb1.size; have B1 : Hid (Below w.heap.size w w1) := (B0.out.trans (Below.drew (Below.refl _ _))).trans (hb1.mono (by have := B0.out.size; simpa using this)))
        try (go_wp2_with fail)
        refine hK.out _ _ ?_ (fun hH1 => ?_)
        · (try dsimp only)
          go_keep
        clear hK K hH0
        try simp only [Act.put, List.setIfInBounds_toArray, List.set_cons_zero, List.set_cons_succ]
        refine wpAnyH_take (i := 6) (oi := { dst := some 13, op := Op.pick (Operand.tmp 10) (Operand.tmp 12) (Operand.const (Value.bool false)), type := 4, pos := "l03_site.go:146", after := #[{ on := 3, ground := Ground.data }, { on := 5, ground := Ground.data }], guard := none }) (v := ?vd6) rfl (by kernel_rfl) (by kernel_rfl) (by kernel_rfl) (fun _ _ _ h => h) (Or.inl ⟨by rfl, ?hyd6⟩) (by assumption) ?restd6
        case hyd6 =>
          intro w hSw
          (try dsimp only at hSw)
          go_simp
          try with_reducible rfl
        try simp only [Act.put, List.setIfInBounds_toArray, List.set_cons_zero, List.set_cons_succ]
        refine wpAnyH_take (i := 7) (oi := { dst := some 14, op := Op.move (Operand.tmp 13), type := 4, pos := "l03_site.go:146", after := #[{ on := 6, ground := Ground.data }, { on := 5, ground := Ground.chain }], guard := none }) (v := ?vd7) rfl (by kernel_rfl) (by kernel_rfl) (by kernel_rfl) (fun _ _ _ h => h) (Or.inl ⟨by rfl, ?hyd7⟩) (by assumption) ?restd7
        case hyd7 =>
          intro w hSw
          (try dsimp only at hSw)
          go_simp
          try with_reducible rfl
        try simp only [Act.put, List.setIfInBounds_toArray, List.set_cons_zero, List.set_cons_succ]
        refine wpAnyH_take (i := 8) (oi := { dst := some 15, op := Op.load 35 (Operand.tmp 4), type := 35, pos := "l03_site.go:146", after := #[{ on := 7, ground := Ground.guard }], guard := some (7, true) }) (v := ?vd8) rfl (by kernel_rfl) (by kernel_rfl) (by kernel_rfl) (fun _ _ _ h => h) (Or.inl ⟨by rfl, ?hyd8⟩) (by assumption) ?restd8
        case hyd8 =>
          intro w hSw
          (try dsimp only at hSw)
          go_simp
          try with_reducible rfl
        try simp only [Act.put, List.setIfInBounds_toArray, List.set_cons_zero, List.set_cons_succ]
        refine wpAnyH_ready (rs := [9]) (by kernel_rfl) (by simp) ?_
        refine AllReadyH.cons (o := { dst := some 16, op := Op.call { callee := Callee.value (Operand.func 22), args := #[Operand.tmp 15], argTypes := #[35] }, type := 4, pos := "l03_site.go:146", after := #[{ on := 8, ground := Ground.data }, { on := 7, ground := Ground.chain }, { on := 7, ground := Ground.guard }], guard := some (7, true) }) rfl (fun K hK => ?_) AllReadyH.nil
        go_simp
        (go_at_call 22; refine (KU.out _).mono ?_; rintro e w2 ⟨rfl, hb2⟩; have T2 := Cells.below (L := [(⟨w.heap.size, 0, none⟩, .string sc), (⟨w.heap.size, 1, none⟩, .string ho), (⟨w.heap.size, 2, none⟩, .int .i64 po), (⟨w.heap.size, 3, none⟩, .string pa), (⟨w.heap.size + 1, 0, none⟩, .string sc2), (⟨w.heap.size + 1, 1, none⟩, .string ho2), (⟨w.heap.size + 1, 2, none⟩, .int .i64 po2), (⟨w.heap.size + 1, 3, none⟩, .string pa2)]) (by simp only [Cells]; go_keep) hb2; simp only [Cells] at T2; obtain ⟨p20, p21, p22, p23, p24, p25, p26, p27, -⟩ := T2; have z2 : w.heap.size + 2 ≤ w2.heap.size := Nat.le_trans z1 hb2.size; have B2 : Hid (Below w.heap.size w w2) := B1.out.trans (hb2.mono B1.out.size); clear p10 p11 p12 p13 p14 p15 p16 p17 z1 hb1)
        try (go_wp2_with fail)
        refine hK.out _ _ ?_ (fun hH2 => ?_)
        · (try dsimp only)
          go_keep
        clear hK K hH1
        try simp only [Act.put, List.setIfInBounds_toArray, List.set_cons_zero, List.set_cons_succ]
        refine wpAnyH_take (i := 10) (oi := { dst := some 17, op := Op.pick (Operand.tmp 14) (Operand.tmp 16) (Operand.const (Value.bool false)), type := 4, pos := "l03_site.go:146", after := #[{ on := 7, ground := Ground.data }, { on := 9, ground := Ground.data }], guard := none }) (v := ?vd10) rfl (by kernel_rfl) (by kernel_rfl) (by kernel_rfl) (fun _ _ _ h => h) (Or.inl ⟨by rfl, ?hyd10⟩) (by assumption) ?restd10
        case hyd10 =>
          intro w hSw
          (try dsimp only at hSw)
          go_simp
          try with_reducible rfl
        try simp only [Act.put, List.setIfInBounds_toArray, List.set_cons_zero, List.set_cons_succ]
        refine wpAnyH_take (i := 11) (oi := { dst := some 18, op := Op.move (Operand.tmp 17), type := 4, pos := "l03_site.go:146", after := #[{ on := 10, ground := Ground.data }, { on := 9, ground := Ground.chain }], guard := none }) (v := ?vd11) rfl (by kernel_rfl) (by kernel_rfl) (by kernel_rfl) (fun _ _ _ h => h) (Or.inl ⟨by rfl, ?hyd11⟩) (by assumption) ?restd11
        case hyd11 =>
          intro w hSw
          (try dsimp only at hSw)
          go_simp
          try with_reducible rfl
        try simp only [Act.put, List.setIfInBounds_toArray, List.set_cons_zero, List.set_cons_succ]
        refine wpAnyH_take (i := 12) (oi := { dst := some 19, op := Op.load 35 (Operand.tmp 5), type := 35, pos := "l03_site.go:146", after := #[{ on := 11, ground := Ground.guard }], guard := some (11, true) }) (v := ?vd12) rfl (by kernel_rfl) (by kernel_rfl) (by kernel_rfl) (fun _ _ _ h => h) (Or.inl ⟨by rfl, ?hyd12⟩) (by assumption) ?restd12
        case hyd12 =>
          intro w hSw
          (try dsimp only at hSw)
          go_simp
          try with_reducible rfl
        try simp only [Act.put, List.setIfInBounds_toArray, List.set_cons_zero, List.set_cons_succ]
        refine wpAnyH_ready (rs := [13]) (by kernel_rfl) (by simp) ?_
        refine AllReadyH.cons (o := { dst := some 20, op := Op.call { callee := Callee.value (Operand.func 22), args := #[Operand.tmp 19], argTypes := #[35] }, type := 4, pos := "l03_site.go:146", after := #[{ on := 12, ground := Ground.data }, { on := 11, ground := Ground.chain }, { on := 11, ground := Ground.guard }], guard := some (11, true) }) rfl (fun K hK => ?_) AllReadyH.nil
        go_simp
        (go_at_call 22; refine (KV.out _).mono ?_; rintro e w3 ⟨rfl, hb3⟩; have T3 := Cells.below (L := [(⟨w.heap.size, 0, none⟩, .string sc), (⟨w.heap.size, 1, none⟩, .string ho), (⟨w.heap.size, 2, none⟩, .int .i64 po), (⟨w.heap.size, 3, none⟩, .string pa), (⟨w.heap.size + 1, 0, none⟩, .string sc2), (⟨w.heap.size + 1, 1, none⟩, .string ho2), (⟨w.heap.size + 1, 2, none⟩, .int .i64 po2), (⟨w.heap.size + 1, 3, none⟩, .string pa2)]) (by simp only [Cells]; go_keep) hb3; simp only [Cells] at T3; obtain ⟨p30, p31, p32, p33, p34, p35, p36, p37, -⟩ := T3; have z3 : w.heap.size + 2 ≤ w3.heap.size := Nat.le_trans z2 hb3.size; have B3 : Hid (Below w.heap.size w w3) := B2.out.trans (hb3.mono B2.out.size); clear p20 p21 p22 p23 p24 p25 p26 p27 z2 hb2)
        try (go_wp2_with fail)
        refine hK.out _ _ ?_ (fun hH3 => ?_)
        · (try dsimp only)
          go_keep
        clear hK K hH2
        try simp only [Act.put, List.setIfInBounds_toArray, List.set_cons_zero, List.set_cons_succ]
        refine wpAnyH_take (i := 14) (oi := { dst := some 21, op := Op.pick (Operand.tmp 18) (Operand.tmp 20) (Operand.const (Value.bool false)), type := 4, pos := "l03_site.go:146", after := #[{ on := 11, ground := Ground.data }, { on := 13, ground := Ground.data }], guard := none }) (v := ?vd14) rfl (by kernel_rfl) (by kernel_rfl) (by kernel_rfl) (fun _ _ _ h => h) (Or.inl ⟨by rfl, ?hyd14⟩) (by assumption) ?restd14
        case hyd14 =>
          intro w hSw
          (try dsimp only at hSw)
          go_simp
          try with_reducible rfl
        try simp only [Act.put, List.setIfInBounds_toArray, List.set_cons_zero, List.set_cons_succ]
        refine wpAnyH_take (i := 15) (oi := { dst := some 22, op := Op.move (Operand.tmp 21), type := 4, pos := "l03_site.go:146", after := #[{ on := 14, ground := Ground.data }, { on := 13, ground := Ground.chain }], guard := none }) (v := ?vd15) rfl (by kernel_rfl) (by kernel_rfl) (by kernel_rfl) (fun _ _ _ h => h) (Or.inl ⟨by rfl, ?hyd15⟩) (by assumption) ?restd15
        case hyd15 =>
          intro w hSw
          (try dsimp only at hSw)
          go_simp
          try with_reducible rfl
        try simp only [Act.put, List.setIfInBounds_toArray, List.set_cons_zero, List.set_cons_succ]
        refine wpAnyH_take (i := 16) (oi := { dst := some 23, op := Op.move (Operand.tmp 0), type := 43, pos := "l03_site.go:146", after := #[{ on := 15, ground := Ground.guard }], guard := some (15, true) }) (v := undef) rfl (by kernel_rfl) (by kernel_rfl) (by kernel_rfl) (fun _ _ _ h => h) (Or.inr ⟨by rfl, rfl⟩) (by assumption) ?_
        try simp only [Act.put, List.setIfInBounds_toArray, List.set_cons_zero, List.set_cons_succ]
        refine wpAnyH_take (i := 17) (oi := { dst := some 24, op := Op.load 35 (Operand.tmp 4), type := 35, pos := "l03_site.go:146", after := #[{ on := 15, ground := Ground.guard }], guard := some (15, true) }) (v := undef) rfl (by kernel_rfl) (by kernel_rfl) (by kernel_rfl) (fun _ _ _ h => h) (Or.inr ⟨by rfl, rfl⟩) (by assumption) ?_
        try simp only [Act.put, List.setIfInBounds_toArray, List.set_cons_zero, List.set_cons_succ]
        refine wpAnyH_take (i := 18) (oi := { dst := some 25, op := Op.call { callee := Callee.value (Operand.func 78), args := #[Operand.tmp 23, Operand.tmp 24], argTypes := #[43, 35] }, type := 9, pos := "l03_site.go:146", after := #[{ on := 16, ground := Ground.data }, { on := 17, ground := Ground.data }, { on := 15, ground := Ground.chain }, { on := 15, ground := Ground.guard }], guard := some (15, true) }) (v := undef) rfl (by kernel_rfl) (by kernel_rfl) (by kernel_rfl) (fun _ _ _ h => h) (Or.inr ⟨by rfl, rfl⟩) (by assumption) ?_
        try simp only [Act.put, List.setIfInBounds_toArray, List.set_cons_zero, List.set_cons_succ]
        refine wpAnyH_take (i := 19) (oi := { dst := some 26, op := Op.move (Operand.tmp 0), type := 43, pos := "l03_site.go:146", after := #[{ on := 15, ground := Ground.guard }], guard := some (15, true) }) (v := undef) rfl (by kernel_rfl) (by kernel_rfl) (by kernel_rfl) (fun _ _ _ h => h) (Or.inr ⟨by rfl, rfl⟩) (by assumption) ?_
        try simp only [Act.put, List.setIfInBounds_toArray, List.set_cons_zero, List.set_cons_succ]
        refine wpAnyH_take (i := 20) (oi := { dst := some 27, op := Op.load 35 (Operand.tmp 5), type := 35, pos := "l03_site.go:146", after := #[{ on := 15, ground := Ground.guard }], guard := some (15, true) }) (v := undef) rfl (by kernel_rfl) (by kernel_rfl) (by kernel_rfl) (fun _ _ _ h => h) (Or.inr ⟨by rfl, rfl⟩) (by assumption) ?_
        try simp only [Act.put, List.setIfInBounds_toArray, List.set_cons_zero, List.set_cons_succ]
        refine wpAnyH_take (i := 21) (oi := { dst := some 28, op := Op.call { callee := Callee.value (Operand.func 78), args := #[Operand.tmp 26, Operand.tmp 27], argTypes := #[43, 35] }, type := 9, pos := "l03_site.go:146", after := #[{ on := 19, ground := Ground.data }, { on := 20, ground := Ground.data }, { on := 18, ground := Ground.chain }, { on := 15, ground := Ground.guard }], guard := some (15, true) }) (v := undef) rfl (by kernel_rfl) (by kernel_rfl) (by kernel_rfl) (fun _ _ _ h => h) (Or.inr ⟨by rfl, rfl⟩) (by assumption) ?_
        try simp only [Act.put, List.setIfInBounds_toArray, List.set_cons_zero, List.set_cons_succ]
        refine wpAnyH_take (i := 22) (oi := { dst := some 29, op := Op.binOp BinOp.eql 9 (Operand.tmp 25) (Operand.tmp 28) 9, type := 4, pos := "l03_site.go:146", after := #[{ on := 18, ground := Ground.data }, { on := 21, ground := Ground.data }, { on := 15, ground := Ground.guard }], guard := some (15, true) }) (v := undef) rfl (by kernel_rfl) (by kernel_rfl) (by kernel_rfl) (fun _ _ _ h => h) (Or.inr ⟨by rfl, rfl⟩) (by assumption) ?_
        try simp only [Act.put, List.setIfInBounds_toArray, List.set_cons_zero, List.set_cons_succ]
        refine wpAnyH_take (i := 23) (oi := { dst := some 30, op := Op.pick (Operand.tmp 22) (Operand.tmp 29) (Operand.const (Value.bool false)), type := 4, pos := "l03_site.go:146", after := #[{ on := 15, ground := Ground.data }, { on := 22, ground := Ground.data }], guard := none }) (v := ?vd23) rfl (by kernel_rfl) (by kernel_rfl) (by kernel_rfl) (fun _ _ _ h => h) (Or.inl ⟨by rfl, ?hyd23⟩) (by assumption) ?restd23
        case hyd23 =>
          intro w hSw
          (try dsimp only at hSw)
          go_simp
          try with_reducible rfl
        try simp only [Act.put, List.setIfInBounds_toArray, List.set_cons_zero, List.set_cons_succ]
        refine wpAnyH_take (i := 24) (oi := { dst := some 6, op := Op.assign (Operand.tmp 30), type := 4, pos := "l03_site.go:146", after := #[{ on := 23, ground := Ground.data }, { on := 21, ground := Ground.chain }, { on := 0, ground := Ground.phase }, { on := 1, ground := Ground.phase }, { on := 2, ground := Ground.phase }, { on := 3, ground := Ground.phase }, { on := 4, ground := Ground.phase }, { on := 5, ground := Ground.phase }, { on := 6, ground := Ground.phase }, { on := 7, ground := Ground.phase }, { on := 8, ground := Ground.phase }, { on := 9, ground := Ground.phase }, { on := 10, ground := Ground.phase }, { on := 11, ground := Ground.phase }, { on := 12, ground := Ground.phase }, { on := 13, ground := Ground.phase }, { on := 14, ground := Ground.phase }, { on := 15, ground := Ground.phase }, { on := 16, ground := Ground.phase }, { on := 17, ground := Ground.phase }, { on := 18, ground := Ground.phase }, { on := 19, ground := Ground.phase }, { on := 20, ground := Ground.phase }, { on := 21, ground := Ground.phase }, { on := 22, ground := Ground.phase }, { on := 23, ground := Ground.phase }], guard := none }) (v := ?vd24) rfl (by kernel_rfl) (by kernel_rfl) (by kernel_rfl) (fun _ _ _ h => h) (Or.inl ⟨by rfl, ?hyd24⟩) (by assumption) ?restd24
        case hyd24 =>
          intro w hSw
          (try dsimp only at hSw)
          go_simp
          try with_reducible rfl
        try simp only [Act.put, List.setIfInBounds_toArray, List.set_cons_zero, List.set_cons_succ]
        refine wpAnyH_done (by kernel_rfl) ?_ _
        go_wp2
        go_ret
        exact ⟨ret_bool (by rw [HR.out]), B3.out⟩
      | true =>
        have HR : Hid (R = (T.toList == T2.toList)) := by show _ = _; rw [HE.out]; rfl
        have KS : Hid _ := KS0.out rfl rfl
        have KT : Hid _ := KT0.out rfl rfl
        clear KS0 KT0 HE HR20
        go_enter Tryd.func42, Tryd.ntmps42
        go_wp2_with fail
        have B0 : Hid (Below w.heap.size w ((w.alloc (.cells #[.string sc, .string ho, .int .i64 po, .string pa] 35)).alloc (.cells #[.string sc2, .string ho2, .int .i64 po2, .string pa2] 35))) := HB0.out _ _
        have z0 : w.heap.size + 2 ≤ ((w.alloc (.cells #[.string sc, .string ho, .int .i64 po, .string pa] 35)).alloc (.cells #[.string sc2, .string ho2, .int .i64 po2, .string pa2] 35)).heap.size := by simp
        have p00 : ((w.alloc (.cells #[.string sc, .string ho, .int .i64 po, .string pa] 35)).alloc (.cells #[.string sc2, .string ho2, .int .i64 po2, .string pa2] 35)).cell? ⟨w.heap.size, 0, none⟩ = some (.string sc) := by simp
        have p01 : ((w.alloc (.cells #[.string sc, .string ho, .int .i64 po, .string pa] 35)).alloc (.cells #[.string sc2, .string ho2, .int .i64 po2, .string pa2] 35)).cell? ⟨w.heap.size, 1, none⟩ = some (.string ho) := by simp
        have p02 : ((w.alloc (.cells #[.string sc, .string ho, .int .i64 po, .string pa] 35)).alloc (.cells #[.string sc2, .string ho2, .int .i64 po2, .string pa2] 35)).cell? ⟨w.heap.size, 2, none⟩ = some (.int .i64 po) := by simp
        have p03 : ((w.alloc (.cells #[.string sc, .string ho, .int .i64 po, .string pa] 35)).alloc (.cells #[.string sc2, .string ho2, .int .i64 po2, .string pa2] 35)).cell? ⟨w.heap.size, 3, none⟩ = some (.string pa) := by simp
        have p04 : ((w.alloc (.cells #[.string sc, .string ho, .int .i64 po, .string pa] 35)).alloc (.cells #[.string sc2, .string ho2, .int .i64 po2, .string pa2] 35)).cell? ⟨w.heap.size + 1, 0, none⟩ = some (.string sc2) := by simp
        have p05 : ((w.alloc (.cells #[.string sc, .string ho, .int .i64 po, .string pa] 35)).alloc (.cells #[.string sc2, .string ho2, .int .i64 po2, .string pa2] 35)).cell? ⟨w.heap.size + 1, 1, none⟩ = some (.string ho2) := by simp
        have p06 : ((w.alloc (.cells #[.string sc, .string ho, .int .i64 po, .string pa] 35)).alloc (.cells #[.string sc2, .string ho2, .int .i64 po2, .string pa2] 35)).cell? ⟨w.heap.size + 1, 2, none⟩ = some (.int .i64 po2) := by simp
        have p07 : ((w.alloc (.cells #[.string sc, .string ho, .int .i64 po, .string pa] 35)).alloc (.cells #[.string sc2, .string ho2, .int .i64 po2, .string pa2] 35)).cell? ⟨w.heap.size + 1, 3, none⟩ = some (.string pa2) := by simp
        generalize ((w.alloc (.cells #[.string sc, .string ho, .int .i64 po, .string pa] 35)).alloc (.cells #[.string sc2, .string ho2, .int .i64 po2, .string pa2] 35)) = w0 at *
        refine wp_region_held_drew (S := (fun w' => w.heap.size + 2 ≤ w'.heap.size ∧ w'.cell? ⟨w.heap.size, 0, none⟩ = some (.string sc) ∧ w'.cell? ⟨w.heap.size, 1, none⟩ = some (.string ho) ∧ w'.cell? ⟨w.heap.size, 2, none⟩ = some (.int .i64 po) ∧ w'.cell? ⟨w.heap.size, 3, none⟩ = some (.string pa) ∧ w'.cell? ⟨w.heap.size + 1, 0, none⟩ = some (.string sc2) ∧ w'.cell? ⟨w.heap.size + 1, 1, none⟩ = some (.string ho2) ∧ w'.cell? ⟨w.heap.size + 1, 2, none⟩ = some (.int .i64 po2) ∧ w'.cell? ⟨w.heap.size + 1, 3, none⟩ = some (.string pa2))) (by kernel_rfl) ?_ (fun hH0 => ?_)
        · (try dsimp only)
          go_keep
        refine wpAnyH_take (i := 0) (oi := { dst := some 7, op := Op.move (Operand.tmp 0), type := 43, pos := "l03_site.go:146", after := #[], guard := none }) (v := ?ve0) rfl (by kernel_rfl) (by kernel_rfl) (by kernel_rfl) (fun _ _ _ h => h) (Or.inl ⟨by rfl, ?hye0⟩) (by assumption) ?reste0
        case hye0 =>
          intro w hSw
          (try dsimp only at hSw)
          go_simp
          try with_reducible rfl
        try simp only [Act.put, List.setIfInBounds_toArray, List.set_cons_zero, List.set_cons_succ]
        refine wpAnyH_take (i := 1) (oi := { dst := some 8, op := Op.call { callee := Callee.builtin Builtin.len, args := #[Operand.tmp 7], argTypes := #[43] }, type := 3, pos := "l03_site.go:146", after := #[{ on := 0, ground := Ground.data }], guard := none }) (v := ?ve1) rfl (by kernel_rfl) (by kernel_rfl) (by kernel_rfl) (fun _ _ _ h => h) (Or.inl ⟨by rfl, ?hye1⟩) (by assumption) ?reste1
        case hye1 =>
          intro w hSw
          (try dsimp only at hSw)
          go_simp
          try with_reducible rfl
        try simp only [Act.put, List.setIfInBounds_toArray, List.set_cons_zero, List.set_cons_succ]
        refine wpAnyH_take (i := 2) (oi := { dst := some 9, op := Op.binOp BinOp.leq 3 (Operand.tmp 8) (Operand.const (Value.int IntKind.i64 400)) 3, type := 4, pos := "l03_site.go:146", after := #[{ on := 1, ground := Ground.data }], guard := none }) (v := ?ve2) rfl (by kernel_rfl) (by kernel_rfl) (by kernel_rfl) (fun _ _ _ h => h) (Or.inl ⟨by rfl, ?hye2⟩) (by assumption) ?reste2
        case hye2 =>
          intro w hSw
          (try dsimp only at hSw)
          go_simp
          try with_reducible rfl
        try simp only [Act.put, List.setIfInBounds_toArray, List.set_cons_zero, List.set_cons_succ]
        refine wpAnyH_take (i := 3) (oi := { dst := some 10, op := Op.move (Operand.tmp 9), type := 4, pos := "l03_site.go:146", after := #[{ on := 2, ground := Ground.data }], guard := none }) (v := ?ve3) rfl (by kernel_rfl) (by kernel_rfl) (by kernel_rfl) (fun _ _ _ h => h) (Or.inl ⟨by rfl, ?hye3⟩) (by assumption) ?reste3
        case hye3 =>
          intro w hSw
          (try dsimp only at hSw)
          go_simp
          try with_reducible rfl
        try simp only [Act.put, List.setIfInBounds_toArray, List.set_cons_zero, List.set_cons_succ]
        refine wpAnyH_take (i := 4) (oi := { dst := some 11, op := Op.move (Operand.tmp 0), type := 43, pos := "l03_site.go:146", after := #[{ on := 3, ground := Ground.guard }], guard := some (3, true) }) (v := ?ve4) rfl (by kernel_rfl) (by kernel_rfl) (by kernel_rfl) (fun _ _ _ h => h) (Or.inl ⟨by rfl, ?hye4⟩) (by assumption) ?reste4
        case hye4 =>
          intro w hSw
          (try dsimp only at hSw)
          go_simp
          try with_reducible rfl
        try simp only [Act.put, List.setIfInBounds_toArray, List.set_cons_zero, List.set_cons_succ]
        refine wpAnyH_ready (rs := [5]) (by kernel_rfl) (by simp) ?_
        refine AllReadyH.cons (o := { dst := some 12, op := Op.call { callee := Callee.value (Operand.func 45), args := #[Operand.tmp 11], argTypes := #[43] }, type := 4, pos := "l03_site.go:146", after := #[{ on := 4, ground := Ground.data }, { on := 3, ground := Ground.chain }, { on := 3, ground := Ground.guard }], guard := some (3, true) }) rfl (fun K hK => ?_) AllReadyH.nil
        go_simp
        (go_at_call 45; refine (KR.out _ (B0.out.trans (Below.drew (Below.refl _ _)))).mono ?_; rintro e w1 ⟨rfl, hb1⟩; have T1 := Cells.below (L := [(⟨w.heap.size, 0, none⟩, .string sc), (⟨w.heap.size, 1, none⟩, .string ho), (⟨w.heap.size, 2, none⟩, .int .i64 po), (⟨w.heap.size, 3, none⟩, .string pa), (⟨w.heap.size + 1, 0, none⟩, .string sc2), (⟨w.heap.size + 1, 1, none⟩, .string ho2), (⟨w.heap.size + 1, 2, none⟩, .int .i64 po2), (⟨w.heap.size + 1, 3, none⟩, .string pa2)]) (by simp only [Cells]; go_keep) hb1; simp only [Cells] at T1; obtain ⟨p10, p11, p12, p13, p14, p15, p16, p17, -⟩ := T1; have z1 : w.heap.size + 2 ≤ w1.heap.size := Nat.le_trans z0 hb1.size; have B1 : Hid (Below w.heap.size w w1) := (B0.out.trans (Below.drew (Below.refl _ _))).trans (hb1.mono (by have := B0.out.size; simpa using this)))
        try (go_wp2_with fail)
        refine hK.out _ _ ?_ (fun hH1 => ?_)
        · (try dsimp only)
          go_keep
        clear hK K hH0
        try simp only [Act.put, List.setIfInBounds_toArray, List.set_cons_zero, List.set_cons_succ]
        refine wpAnyH_take (i := 6) (oi := { dst := some 13, op := Op.pick (Operand.tmp 10) (Operand.tmp 12) (Operand.const (Value.bool false)), type := 4, pos := "l03_site.go:146", after := #[{ on := 3, ground := Ground.data }, { on := 5, ground := Ground.data }], guard := none }) (v := ?ve6) rfl (by kernel_rfl) (by kernel_rfl) (by kernel_rfl) (fun _ _ _ h => h) (Or.inl ⟨by rfl, ?hye6⟩) (by assumption) ?reste6
        case hye6 =>
          intro w hSw
          (try dsimp only at hSw)
          go_simp
          try with_reducible rfl
        try simp only [Act.put, List.setIfInBounds_toArray, List.set_cons_zero, List.set_cons_succ]
        refine wpAnyH_take (i := 7) (oi := { dst := some 14, op := Op.move (Operand.tmp 13), type := 4, pos := "l03_site.go:146", after := #[{ on := 6, ground := Ground.data }, { on := 5, ground := Ground.chain }], guard := none }) (v := ?ve7) rfl (by kernel_rfl) (by kernel_rfl) (by kernel_rfl) (fun _ _ _ h => h) (Or.inl ⟨by rfl, ?hye7⟩) (by assumption) ?reste7
        case hye7 =>
          intro w hSw
          (try dsimp only at hSw)
          go_simp
          try with_reducible rfl
        try simp only [Act.put, List.setIfInBounds_toArray, List.set_cons_zero, List.set_cons_succ]
        refine wpAnyH_take (i := 8) (oi := { dst := some 15, op := Op.load 35 (Operand.tmp 4), type := 35, pos := "l03_site.go:146", after := #[{ on := 7, ground := Ground.guard }], guard := some (7, true) }) (v := ?ve8) rfl (by kernel_rfl) (by kernel_rfl) (by kernel_rfl) (fun _ _ _ h => h) (Or.inl ⟨by rfl, ?hye8⟩) (by assumption) ?reste8
        case hye8 =>
          intro w hSw
          (try dsimp only at hSw)
          go_simp
          try with_reducible rfl
        try simp only [Act.put, List.setIfInBounds_toArray, List.set_cons_zero, List.set_cons_succ]
        refine wpAnyH_ready (rs := [9]) (by kernel_rfl) (by simp) ?_
        refine AllReadyH.cons (o := { dst := some 16, op := Op.call { callee := Callee.value (Operand.func 22), args := #[Operand.tmp 15], argTypes := #[35] }, type := 4, pos := "l03_site.go:146", after := #[{ on := 8, ground := Ground.data }, { on := 7, ground := Ground.chain }, { on := 7, ground := Ground.guard }], guard := some (7, true) }) rfl (fun K hK => ?_) AllReadyH.nil
        go_simp
        (go_at_call 22; refine (KU.out _).mono ?_; rintro e w2 ⟨rfl, hb2⟩; have T2 := Cells.below (L := [(⟨w.heap.size, 0, none⟩, .string sc), (⟨w.heap.size, 1, none⟩, .string ho), (⟨w.heap.size, 2, none⟩, .int .i64 po), (⟨w.heap.size, 3, none⟩, .string pa), (⟨w.heap.size + 1, 0, none⟩, .string sc2), (⟨w.heap.size + 1, 1, none⟩, .string ho2), (⟨w.heap.size + 1, 2, none⟩, .int .i64 po2), (⟨w.heap.size + 1, 3, none⟩, .string pa2)]) (by simp only [Cells]; go_keep) hb2; simp only [Cells] at T2; obtain ⟨p20, p21, p22, p23, p24, p25, p26, p27, -⟩ := T2; have z2 : w.heap.size + 2 ≤ w2.heap.size := Nat.le_trans z1 hb2.size; have B2 : Hid (Below w.heap.size w w2) := B1.out.trans (hb2.mono B1.out.size); clear p10 p11 p12 p13 p14 p15 p16 p17 z1 hb1)
        try (go_wp2_with fail)
        refine hK.out _ _ ?_ (fun hH2 => ?_)
        · (try dsimp only)
          go_keep
        clear hK K hH1
        try simp only [Act.put, List.setIfInBounds_toArray, List.set_cons_zero, List.set_cons_succ]
        refine wpAnyH_take (i := 10) (oi := { dst := some 17, op := Op.pick (Operand.tmp 14) (Operand.tmp 16) (Operand.const (Value.bool false)), type := 4, pos := "l03_site.go:146", after := #[{ on := 7, ground := Ground.data }, { on := 9, ground := Ground.data }], guard := none }) (v := ?ve10) rfl (by kernel_rfl) (by kernel_rfl) (by kernel_rfl) (fun _ _ _ h => h) (Or.inl ⟨by rfl, ?hye10⟩) (by assumption) ?reste10
        case hye10 =>
          intro w hSw
          (try dsimp only at hSw)
          go_simp
          try with_reducible rfl
        try simp only [Act.put, List.setIfInBounds_toArray, List.set_cons_zero, List.set_cons_succ]
        refine wpAnyH_take (i := 11) (oi := { dst := some 18, op := Op.move (Operand.tmp 17), type := 4, pos := "l03_site.go:146", after := #[{ on := 10, ground := Ground.data }, { on := 9, ground := Ground.chain }], guard := none }) (v := ?ve11) rfl (by kernel_rfl) (by kernel_rfl) (by kernel_rfl) (fun _ _ _ h => h) (Or.inl ⟨by rfl, ?hye11⟩) (by assumption) ?reste11
        case hye11 =>
          intro w hSw
          (try dsimp only at hSw)
          go_simp
          try with_reducible rfl
        try simp only [Act.put, List.setIfInBounds_toArray, List.set_cons_zero, List.set_cons_succ]
        refine wpAnyH_take (i := 12) (oi := { dst := some 19, op := Op.load 35 (Operand.tmp 5), type := 35, pos := "l03_site.go:146", after := #[{ on := 11, ground := Ground.guard }], guard := some (11, true) }) (v := ?ve12) rfl (by kernel_rfl) (by kernel_rfl) (by kernel_rfl) (fun _ _ _ h => h) (Or.inl ⟨by rfl, ?hye12⟩) (by assumption) ?reste12
        case hye12 =>
          intro w hSw
          (try dsimp only at hSw)
          go_simp
          try with_reducible rfl
        try simp only [Act.put, List.setIfInBounds_toArray, List.set_cons_zero, List.set_cons_succ]
        refine wpAnyH_ready (rs := [13]) (by kernel_rfl) (by simp) ?_
        refine AllReadyH.cons (o := { dst := some 20, op := Op.call { callee := Callee.value (Operand.func 22), args := #[Operand.tmp 19], argTypes := #[35] }, type := 4, pos := "l03_site.go:146", after := #[{ on := 12, ground := Ground.data }, { on := 11, ground := Ground.chain }, { on := 11, ground := Ground.guard }], guard := some (11, true) }) rfl (fun K hK => ?_) AllReadyH.nil
        go_simp
        (go_at_call 22; refine (KV.out _).mono ?_; rintro e w3 ⟨rfl, hb3⟩; have T3 := Cells.below (L := [(⟨w.heap.size, 0, none⟩, .string sc), (⟨w.heap.size, 1, none⟩, .string ho), (⟨w.heap.size, 2, none⟩, .int .i64 po), (⟨w.heap.size, 3, none⟩, .string pa), (⟨w.heap.size + 1, 0, none⟩, .string sc2), (⟨w.heap.size + 1, 1, none⟩, .string ho2), (⟨w.heap.size + 1, 2, none⟩, .int .i64 po2), (⟨w.heap.size + 1, 3, none⟩, .string pa2)]) (by simp only [Cells]; go_keep) hb3; simp only [Cells] at T3; obtain ⟨p30, p31, p32, p33, p34, p35, p36, p37, -⟩ := T3; have z3 : w.heap.size + 2 ≤ w3.heap.size := Nat.le_trans z2 hb3.size; have B3 : Hid (Below w.heap.size w w3) := B2.out.trans (hb3.mono B2.out.size); clear p20 p21 p22 p23 p24 p25 p26 p27 z2 hb2)
        try (go_wp2_with fail)
        refine hK.out _ _ ?_ (fun hH3 => ?_)
        · (try dsimp only)
          go_keep
        clear hK K hH2
        try simp only [Act.put, List.setIfInBounds_toArray, List.set_cons_zero, List.set_cons_succ]
        refine wpAnyH_take (i := 14) (oi := { dst := some 21, op := Op.pick (Operand.tmp 18) (Operand.tmp 20) (Operand.const (Value.bool false)), type := 4, pos := "l03_site.go:146", after := #[{ on := 11, ground := Ground.data }, { on := 13, ground := Ground.data }], guard := none }) (v := ?ve14) rfl (by kernel_rfl) (by kernel_rfl) (by kernel_rfl) (fun _ _ _ h => h) (Or.inl ⟨by rfl, ?hye14⟩) (by assumption) ?reste14
        case hye14 =>
          intro w hSw
          (try dsimp only at hSw)
          go_simp
          try with_reducible rfl
        try simp only [Act.put, List.setIfInBounds_toArray, List.set_cons_zero, List.set_cons_succ]
        refine wpAnyH_take (i := 15) (oi := { dst := some 22, op := Op.move (Operand.tmp 21), type := 4, pos := "l03_site.go:146", after := #[{ on := 14, ground := Ground.data }, { on := 13, ground := Ground.chain }], guard := none }) (v := ?ve15) rfl (by kernel_rfl) (by kernel_rfl) (by kernel_rfl) (fun _ _ _ h => h) (Or.inl ⟨by rfl, ?hye15⟩) (by assumption) ?reste15
        case hye15 =>
          intro w hSw
          (try dsimp only at hSw)
          go_simp
          try with_reducible rfl
        try simp only [Act.put, List.setIfInBounds_toArray, List.set_cons_zero, List.set_cons_succ]
        refine wpAnyH_take (i := 16) (oi := { dst := some 23, op := Op.move (Operand.tmp 0), type := 43, pos := "l03_site.go:146", after := #[{ on := 15, ground := Ground.guard }], guard := some (15, true) }) (v := ?ve16) rfl (by kernel_rfl) (by kernel_rfl) (by kernel_rfl) (fun _ _ _ h => h) (Or.inl ⟨by rfl, ?hye16⟩) (by assumption) ?reste16
        case hye16 =>
          intro w hSw
          (try dsimp only at hSw)
          go_simp
          try with_reducible rfl
        try simp only [Act.put, List.setIfInBounds_toArray, List.set_cons_zero, List.set_cons_succ]
        refine wpAnyH_take (i := 17) (oi := { dst := some 24, op := Op.load 35 (Operand.tmp 4), type := 35, pos := "l03_site.go:146", after := #[{ on := 15, ground := Ground.guard }], guard := some (15, true) }) (v := ?ve17) rfl (by kernel_rfl) (by kernel_rfl) (by kernel_rfl) (fun _ _ _ h => h) (Or.inl ⟨by rfl, ?hye17⟩) (by assumption) ?reste17
        case hye17 =>
          intro w hSw
          (try dsimp only at hSw)
          go_simp
          try with_reducible rfl
        try simp only [Act.put, List.setIfInBounds_toArray, List.set_cons_zero, List.set_cons_succ]
        refine wpAnyH_take (i := 19) (oi := { dst := some 26, op := Op.move (Operand.tmp 0), type := 43, pos := "l03_site.go:146", after := #[{ on := 15, ground := Ground.guard }], guard := some (15, true) }) (v := ?ve19) rfl (by kernel_rfl) (by kernel_rfl) (by kernel_rfl) (fun _ _ _ h => h) (Or.inl ⟨by rfl, ?hye19⟩) (by assumption) ?reste19
        case hye19 =>
          intro w hSw
          (try dsimp only at hSw)
          go_simp
          try with_reducible rfl
        try simp only [Act.put, List.setIfInBounds_toArray, List.set_cons_zero, List.set_cons_succ]
        refine wpAnyH_take (i := 20) (oi := { dst := some 27, op := Op.load 35 (Operand.tmp 5), type := 35, pos := "l03_site.go:146", after := #[{ on := 15, ground := Ground.guard }], guard := some (15, true) }) (v := ?ve20) rfl (by kernel_rfl) (by kernel_rfl) (by kernel_rfl) (fun _ _ _ h => h) (Or.inl ⟨by rfl, ?hye20⟩) (by assumption) ?reste20
        case hye20 =>
          intro w hSw
          (try dsimp only at hSw)
          go_simp
          try with_reducible rfl
        try simp only [Act.put, List.setIfInBounds_toArray, List.set_cons_zero, List.set_cons_succ]
        refine wpAnyH_ready (rs := [18]) (by kernel_rfl) (by simp) ?_
        refine AllReadyH.cons (o := { dst := some 25, op := Op.call { callee := Callee.value (Operand.func 78), args := #[Operand.tmp 23, Operand.tmp 24], argTypes := #[43, 35] }, type := 9, pos := "l03_site.go:146", after := #[{ on := 16, ground := Ground.data }, { on := 17, ground := Ground.data }, { on := 15, ground := Ground.chain }, { on := 15, ground := Ground.guard }], guard := some (15, true) }) rfl (fun K hK => ?_) AllReadyH.nil
        go_simp
        (go_at_call 78; refine (KS.out _ B3.out).mono ?_; rintro e w4 ⟨rfl, hb4⟩; have T4 := Cells.below (L := [(⟨w.heap.size, 0, none⟩, .string sc), (⟨w.heap.size, 1, none⟩, .string ho), (⟨w.heap.size, 2, none⟩, .int .i64 po), (⟨w.heap.size, 3, none⟩, .string pa), (⟨w.heap.size + 1, 0, none⟩, .string sc2), (⟨w.heap.size + 1, 1, none⟩, .string ho2), (⟨w.heap.size + 1, 2, none⟩, .int .i64 po2), (⟨w.heap.size + 1, 3, none⟩, .string pa2)]) (by simp only [Cells]; go_keep) hb4; simp only [Cells] at T4; obtain ⟨p40, p41, p42, p43, p44, p45, p46, p47, -⟩ := T4; have z4 : w.heap.size + 2 ≤ w4.heap.size := Nat.le_trans z3 hb4.size; have B4 : Hid (Below w.heap.size w w4) := B3.out.trans (hb4.mono B3.out.size); clear p30 p31 p32 p33 p34 p35 p36 p37 z3 hb3)
        try (go_wp2_with fail)
        refine hK.out _ _ ?_ (fun hH4 => ?_)
        · (try dsimp only)
          go_keep
        clear hK K hH3
        try simp only [Act.put, List.setIfInBounds_toArray, List.set_cons_zero, List.set_cons_succ]
        refine wpAnyH_ready (rs := [21]) (by kernel_rfl) (by simp) ?_
        refine AllReadyH.cons (o := { dst := some 28, op := Op.call { callee := Callee.value (Operand.func 78), args := #[Operand.tmp 26, Operand.tmp 27], argTypes := #[43, 35] }, type := 9, pos := "l03_site.go:146", after := #[{ on := 19, ground := Ground.data }, { on := 20, ground := Ground.data }, { on := 18, ground := Ground.chain }, { on := 15, ground := Ground.guard }], guard := some (15, true) }) rfl (fun K hK => ?_) AllReadyH.nil
        go_simp
        (go_at_call 78; refine (KT.out _ B4.out).mono ?_; rintro e w5 ⟨rfl, hb5⟩; have T5 := Cells.below (L := [(⟨w.heap.size, 0, none⟩, .string sc), (⟨w.heap.size, 1, none⟩, .string ho), (⟨w.heap.size, 2, none⟩, .int .i64 po), (⟨w.heap.size, 3, none⟩, .string pa), (⟨w.heap.size + 1, 0, none⟩, .string sc2), (⟨w.heap.size + 1, 1, none⟩, .string ho2), (⟨w.heap.size + 1, 2, none⟩, .int .i64 po2), (⟨w.heap.size + 1, 3, none⟩, .string pa2)]) (by simp only [Cells]; go_keep) hb5; simp only [Cells] at T5; obtain ⟨p50, p51, p52, p53, p54, p55, p56, p57, -⟩ := T5; have z5 : w.heap.size + 2 ≤ w5.heap.size := Nat.le_trans z4 hb5.size; have B5 : Hid (Below w.heap.size w w5) := B4.out.trans (hb5.mono B4.out.size); clear p40 p41 p42 p43 p44 p45 p46 p47 z4 hb4)
        try (go_wp2_with fail)
        refine hK.out _ _ ?_ (fun hH5 => ?_)
        · (try dsimp only)
          go_keep
        clear hK K hH4
        try simp only [Act.put, List.setIfInBounds_toArray, List.set_cons_zero, List.set_cons_succ]
        refine wpAnyH_take (i := 22) (oi := { dst := some 29, op := Op.binOp BinOp.eql 9 (Operand.tmp 25) (Operand.tmp 28) 9, type := 4, pos := "l03_site.go:146", after := #[{ on := 18, ground := Ground.data }, { on := 21, ground := Ground.data }, { on := 15, ground := Ground.guard }], guard := some (15, true) }) (v := ?ve22) rfl (by kernel_rfl) (by kernel_rfl) (by kernel_rfl) (fun _ _ _ h => h) (Or.inl ⟨by rfl, ?hye22⟩) (by assumption) ?reste22
        case hye22 =>
          intro w hSw
          (try dsimp only at hSw)
          go_simp
          try with_reducible rfl
        try simp only [Act.put, List.setIfInBounds_toArray, List.set_cons_zero, List.set_cons_succ]
        refine wpAnyH_take (i := 23) (oi := { dst := some 30, op := Op.pick (Operand.tmp 22) (Operand.tmp 29) (Operand.const (Value.bool false)), type := 4, pos := "l03_site.go:146", after := #[{ on := 15, ground := Ground.data }, { on := 22, ground := Ground.data }], guard := none }) (v := ?ve23) rfl (by kernel_rfl) (by kernel_rfl) (by kernel_rfl) (fun _ _ _ h => h) (Or.inl ⟨by rfl, ?hye23⟩) (by assumption) ?reste23
        case hye23 =>
          intro w hSw
          (try dsimp only at hSw)
          go_simp
          try with_reducible rfl
        try simp only [Act.put, List.setIfInBounds_toArray, List.set_cons_zero, List.set_cons_succ]
        refine wpAnyH_take (i := 24) (oi := { dst := some 6, op := Op.assign (Operand.tmp 30), type := 4, pos := "l03_site.go:146", after := #[{ on := 23, ground := Ground.data }, { on := 21, ground := Ground.chain }, { on := 0, ground := Ground.phase }, { on := 1, ground := Ground.phase }, { on := 2, ground := Ground.phase }, { on := 3, ground := Ground.phase }, { on := 4, ground := Ground.phase }, { on := 5, ground := Ground.phase }, { on := 6, ground := Ground.phase }, { on := 7, ground := Ground.phase }, { on := 8, ground := Ground.phase }, { on := 9, ground := Ground.phase }, { on := 10, ground := Ground.phase }, { on := 11, ground := Ground.phase }, { on := 12, ground := Ground.phase }, { on := 13, ground := Ground.phase }, { on := 14, ground := Ground.phase }, { on := 15, ground := Ground.phase }, { on := 16, ground := Ground.phase }, { on := 17, ground := Ground.phase }, { on := 18, ground := Ground.phase }, { on := 19, ground := Ground.phase }, { on := 20, ground := Ground.phase }, { on := 21, ground := Ground.phase }, { on := 22, ground := Ground.phase }, { on := 23, ground := Ground.phase }], guard := none }) (v := ?ve24) rfl (by kernel_rfl) (by kernel_rfl) (by kernel_rfl) (fun _ _ _ h => h) (Or.inl ⟨by rfl, ?hye24⟩) (by assumption) ?reste24
        case hye24 =>
          intro w hSw
          (try dsimp only at hSw)
          go_simp
          try with_reducible rfl
        try simp only [Act.put, List.setIfInBounds_toArray, List.set_cons_zero, List.set_cons_succ]
        refine wpAnyH_done (by kernel_rfl) ?_ _
        go_wp2
        go_ret
        exact ⟨ret_bool (by rw [HR.out]), B5.out⟩
end Go.Proofs.YtmlacbjlafdenaaDoor

/- The specification's source of draws: what it tells is somewhere in its bounds; it writes into its own block alone. -/
namespace Go.Proofs.YtmlacbjlafdenaaDoor
open Go.RowKit

/-- the bytes of a source: readable, and of a block below g -/
def BytesOf (w : World) (g : Nat) (a : Option Addr) (len : Nat) : Prop := ∀ i, i < len → ∃ (x : Addr) (z : Int), a = some x ∧ x.block < g ∧ w.cell? (x.add i) = some (.int .u8 z) ∧ 0 ≤ z ∧ z < 256
/-- a source of draws lies in block g -/
def SrcAt (w : World) (g : Nat) : Prop :=
  g < w.heap.size ∧ ∃ (a : Option Addr) (len cap at' : Nat) (mix size : Int), (w.cell? ⟨g, 0, none⟩ = some (.slice a len cap) ∧ w.cell? ⟨g, 1, none⟩ = some (.int .i64 at') ∧ w.cell? ⟨g, 2, none⟩ = some (.int .u64 mix) ∧ w.cell? ⟨g, 3, none⟩ = some (.int .i64 size)) ∧
    (0 ≤ mix ∧ mix < 18446744073709551616 ∧ 0 ≤ size ∧ size ≤ 12 ∧ len ≤ 1048576 ∧ at' ≤ len) ∧ (∀ o, w.frozen? ⟨g, o, none⟩ = false) ∧ BytesOf w g a len

theorem setCell_twice (W : World) (p : Addr) (u v : Value) : (W.setCell p u).setCell p v = W.setCell p v := by
  unfold World.setCell
  congr 1
  apply Array.ext
  · simp
  · intro i h1 h2
    simp only [Array.getElem_modify]
    split
    · have hi : i < W.heap.size := by simpa using h2
      cases W.heap[i] with
      | cells c e f => by_cases hs : p.spot.isSome = true <;> simp [hs]
      | _ => rfl
    · rfl
theorem xor_range (a b : Int) : 0 ≤ bits BinOp.xor IntKind.u64 a b ∧ bits BinOp.xor IntKind.u64 a b < 18446744073709551616 := by
  show 0 ≤ IntKind.u64.wrap _ ∧ IntKind.u64.wrap _ < _
  rw [IntKind.wrap_u64]
  exact ⟨Int.emod_nonneg _ (by decide), Int.emod_lt_of_pos _ (by decide)⟩
theorem draw_range (x most : Int) (h1 : 1 < most) (h2 : most < 9223372036854775808) : 0 ≤ wrap64 ((IntKind.u64.wrap x).tmod most) ∧ wrap64 ((IntKind.u64.wrap x).tmod most) < most := by
  rw [IntKind.wrap_u64]
  have h0 : 0 ≤ x % 18446744073709551616 := Int.emod_nonneg _ (by decide)
  generalize x % 18446744073709551616 = y at *
  rw [Int.tmod_eq_emod_of_nonneg h0]
  have a1 := Int.emod_nonneg y (b := most) (by omega)
  have a2 := Int.emod_lt_of_pos y (b := most) (by omega)
  generalize y % most = r at *
  unfold wrap64
  omega
theorem BytesOf.setCell {w : World} {g o : Nat} {a : Option Addr} {len : Nat} (hb : BytesOf w g a len) (v : Value) : BytesOf (w.setCell ⟨g, o, none⟩ v) g a len := by
  intro i hi
  obtain ⟨x, z, e, hx, hc, hz⟩ := hb i hi
  have hxb : (x.add i).block = x.block := by unfold Addr.add; split <;> rfl
  refine ⟨x, z, e, hx, ?_, hz⟩
  rw [World.cell?_setCell_far _ _ _ _ (by rw [hxb]; show g ≠ _; omega)]
  exact hc
theorem grown_setCell {w w' : World} {g o : Nat} (h : w.grownBy w' (some g)) (v : Value) : w.grownBy (w'.setCell ⟨g, o, none⟩ v) (some g) :=
  ⟨h.os, h.tape, h.output, by have := h.size; simp [World.setCell]; omega, fun j hj hne => by
    have hj' : j ≠ g := fun h => hne (by rw [h])
    rw [Below.heap_setCell _ _ _ _ hj']; exact h.block j hj hne⟩
theorem grown_refl (w : World) (r : Option Nat) : w.grownBy w r := ⟨rfl, rfl, rfl, Nat.le_refl _, fun _ _ _ => rfl⟩
/-- a source turned: its place moved on -/
theorem src_on {w : World} {g : Nat} {a : Option Addr} {len cap k k' : Nat} {mix size : Int} (hg : g < w.heap.size)
    (c0 : w.cell? ⟨g, 0, none⟩ = some (.slice a len cap)) (c1 : w.cell? ⟨g, 1, none⟩ = some (.int .i64 k)) (c2 : w.cell? ⟨g, 2, none⟩ = some (.int .u64 mix)) (c3 : w.cell? ⟨g, 3, none⟩ = some (.int .i64 size))
    (m0 : 0 ≤ mix) (m1 : mix < 18446744073709551616) (hs0 : 0 ≤ size) (hs1 : size ≤ 12) (hl : len ≤ 1048576) (hk : k' ≤ len) (hf : ∀ o, w.frozen? ⟨g, o, none⟩ = false) (hb : BytesOf w g a len) :
    SrcAt (w.setCell ⟨g, 1, none⟩ (.int .i64 k')) g := by
  refine ⟨by simpa [World.setCell] using hg, a, len, cap, k', mix, size, ⟨?_, ?_, ?_, ?_⟩, ⟨m0, m1, hs0, hs1, hl, hk⟩, ?_, hb.setCell _⟩
  · rw [World.cell?_setCell_other _ _ _ _ (by simp)]; exact c0
  · exact World.cell?_setCell_same _ _ _ c1
  · rw [World.cell?_setCell_other _ _ _ _ (by simp)]; exact c2
  · rw [World.cell?_setCell_other _ _ _ _ (by simp)]; exact c3
  · intro o; rw [World.frozen?_setCell]; exact hf o
/-- a source turned: its mix another one -/
theorem src_mix {w : World} {g : Nat} {M : Int} (h : SrcAt w g) (hM : 0 ≤ M ∧ M < 18446744073709551616) : SrcAt (w.setCell ⟨g, 2, none⟩ (.int .u64 M)) g := by
  obtain ⟨hg, a, len, cap, k, mix, size, ⟨c0, c1, c2, c3⟩, ⟨m0, m1, s0, s1, hl, hk⟩, hf, hb⟩ := h
  refine ⟨by simpa [World.setCell] using hg, a, len, cap, k, M, size, ⟨?_, ?_, ?_, ?_⟩, ⟨hM.1, hM.2, s0, s1, hl, hk⟩, ?_, hb.setCell _⟩
  · rw [World.cell?_setCell_other _ _ _ _ (by simp)]; exact c0
  · rw [World.cell?_setCell_other _ _ _ _ (by simp)]; exact c1
  · exact World.cell?_setCell_same _ _ _ c2
  · rw [World.cell?_setCell_other _ _ _ _ (by simp)]; exact c3
  · intro o; rw [World.frozen?_setCell]; exact hf o
theorem SrcAt.drew {w : World} {g : Nat} (h : SrcAt w g) : SrcAt w.drew g := h
theorem grown_drew {w w' : World} {r : Option Nat} (h : w.grownBy w' r) : w.grownBy w'.drew r := ⟨h.os, h.tape, h.output, h.size, h.block⟩

set_option maxRecDepth 10000 in
set_option maxHeartbeats 1000000 in
theorem srcN_any (g : Nat) (most : Int) (w : World) (hs : SrcAt w g) (hm : most < 9223372036854775808) :
    Calls Tryd.prog 53 #[.pointer (some ⟨g, 0, none⟩), .int .i64 most] w fun e w' => ∃ r : Int, e = .returned (.int .i64 r) ∧ 0 ≤ r ∧ (1 < most → r < most) ∧ (most ≤ 1 → r = 0) ∧ SrcAt w' g ∧ w.grownBy w' (some g) := by
  have HS : Hid (SrcAt w g) := hs
  obtain ⟨hg, a, len, cap, k, mix, size, ⟨c0, c1, c2, c3⟩, ⟨m0, m1, s0, s1, hl, hk⟩, hf, hb⟩ := hs
  have hcc : ∀ (W : World) (p : Addr) (u v : Value), (W.setCell p u).setCell p v = W.setCell p v := setCell_twice
  by_cases h1 : most ≤ 1
  · go_enter Tryd.func53, Tryd.ntmps53
    go_wp2
    go_ret
    exact ⟨0, rfl, Int.le_refl _, fun h => absurd h (by omega), fun _ => rfl, HS.out, ⟨rfl, rfl, rfl, Nat.le_refl _, fun _ _ _ => rfl⟩⟩
  have q1 : decide (most ≤ 1) = false := by rw [decide_eq_false_iff_not]; exact h1
  by_cases hlt : k < len
  · obtain ⟨x, z, rfl, hx, hz, z0, z1⟩ := hb k hlt
    have k0 : (0 : Int) ≤ k := by omega
    have k1 : (k : Int) < (len : Int) := by omega
    have HBy : Hid (BytesOf w g (some x) len) := hb
    clear hb
    go_enter Tryd.func53, Tryd.ntmps53
    go_wp2
    go_region
    go_wp2
    go_region
    go_wp2
    go_region
    go_wp2
    go_region
    go_wp2
    go_region
    go_wp2
    go_ret
    exact ⟨_, rfl, (draw_range _ most h1 hm).1, fun _ => (draw_range _ most h1 hm).2, fun h => absurd h (by omega),
      src_mix (src_on (k' := k + 1) hg c0 c1 c2 c3 m0 m1 s0 s1 hl (by omega) hf HBy.out) (xor_range _ _), grown_drew (grown_drew (grown_drew (grown_drew (grown_drew (grown_setCell (grown_setCell (grown_refl _ _) _) _)))))⟩
  · have HBy : Hid (BytesOf w g a len) := hb
    clear hb
    go_enter Tryd.func53, Tryd.ntmps53
    go_wp2
    go_region
    go_wp2
    go_region
    go_wp2
    go_region
    go_wp2
    go_region
    go_wp2
    go_ret
    exact ⟨_, rfl, (draw_range _ most h1 hm).1, fun _ => (draw_range _ most h1 hm).2, fun h => absurd h (by omega),
      src_mix HS.out (xor_range _ _), grown_drew (grown_drew (grown_drew (grown_drew (grown_setCell (grown_refl _ _) _))))⟩
end Go.Proofs.YtmlacbjlafdenaaDoor
