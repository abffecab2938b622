/- One site: either way round, from one to the next, and with a name ahead of a host. -/
import Derived.Test.YtmlacbjlafdenaaDoorImplSite
namespace Go.Proofs.YtmlacbjlafdenaaDoor

theorem sameS_sym (n : Nat) (f : Nat → ByteArray) (sc ho pa : ByteArray) (po : Int) (sc2 ho2 pa2 : ByteArray) (po2 : Int) : sameS n f sc2 ho2 pa2 po2 sc ho pa po = sameS n f sc ho pa po sc2 ho2 pa2 po2 := by
  unfold sameS
  rw [Bool.beq_comm (a := (siteT n f sc2 ho2).toList)]
  cases rulesB n f <;> cases urlB sc ho pa po <;> cases urlB sc2 ho2 pa2 po2 <;> rfl
theorem sameS_trans {n : Nat} {f : Nat → ByteArray} {sc ho pa : ByteArray} {po : Int} {sc2 ho2 pa2 : ByteArray} {po2 : Int} {sc3 ho3 pa3 : ByteArray} {po3 : Int} (h1 : sameS n f sc ho pa po sc2 ho2 pa2 po2 = true) (h2 : sameS n f sc2 ho2 pa2 po2 sc3 ho3 pa3 po3 = true) : sameS n f sc ho pa po sc3 ho3 pa3 po3 = true := by
  unfold sameS at *
  simp only [Bool.and_eq_true, beq_iff_eq] at *
  exact ⟨⟨h1.1.1, h2.1.2⟩, h1.2.trans h2.2⟩
theorem sameS_yes {n : Nat} {f : Nat → ByteArray} {sc ho pa : ByteArray} {po : Int} {sc2 ho2 pa2 : ByteArray} {po2 : Int} (h0 : rulesB n f = true) (h1 : urlB sc ho pa po = true) (h2 : urlB sc2 ho2 pa2 po2 = true) (h : siteT n f sc ho = siteT n f sc2 ho2) : sameS n f sc ho pa po sc2 ho2 pa2 po2 = true := by
  unfold sameS
  rw [h0, h1, h2, h]; simp
theorem urlB_port {sc ho pa : ByteArray} {po po2 : Int} (h : urlB sc ho pa po = true) (h1 : 1 ≤ po2) (h2 : po2 ≤ 65535) : urlB sc ho pa po2 = true := by
  unfold urlB placeB at *
  simp only [Bool.and_eq_true, decide_eq_true_eq] at *
  exact ⟨⟨h.1.1, h1, h2⟩, h.2⟩
/-- a host with a name ahead -/
def subH (ho : ByteArray) : ByteArray := ⟨#[119, 119, 119, 46]⟩ ++ ho
theorem subH_split (ho : ByteArray) : splitB (subH ho) 46 = ⟨#[119, 119, 119]⟩ :: splitB ho 46 := by
  apply datas_inj
  have e1 := splitB_cut (subH ho) 46
  have e2 := splitB_cut ho 46
  have e46 : (46 : UInt8).toNat = 46 := rfl
  rw [e46] at e1 e2
  rw [e1, List.map_cons, e2]
  have e : (subH ho).data.toList = [119, 119, 119] ++ 46 :: ho.data.toList := by simp [subH]
  rw [e, cutL_app 46 ho.data.toList [119, 119, 119] (by decide)]
theorem tailN_shift (f : Nat → ByteArray) (d : Nat) : ∀ k, tailN f (d + 1) k = tailN (fun i => f (i + 1)) d k
  | 0 => rfl
  | k + 1 => by
    rw [tailN, tailN, tailN_shift f d k, show d + 1 + k = d + k + 1 by omega]
theorem part_cons (f : Nat → ByteArray) (d k : Nat) : partL f d (k + 1) = f d :: partL f (d + 1) k := by
  unfold partL
  rw [List.range_succ_eq_map, List.map_cons, List.map_map]
  congr 1
  apply List.map_congr_left
  intro i _
  show f (d + (i + 1)) = f (d + 1 + i)
  congr 1; omega
theorem join_more (x : List UInt8) (hx : 0 < x.length) : ∀ r : List (List UInt8), (Lib.join r [46]).length < (Lib.join (x :: r) [46]).length
  | [] => by rw [Lib.join_nil, Lib.join_one]; simpa using hx
  | y :: r => by
    rw [Lib.join_cons x, Lib.join_cons y]
    simp [Lib.joinTail]
    omega
theorem tail_more {f : Nat → ByteArray} {d k : Nat} (h : ∀ i, i < k + 1 → 0 < (f (d + i)).size) : (tailN f (d + 1) k).size < (tailN f d (k + 1)).size := by
  have e1 := tail_join (f := f) (d := d + 1) k (fun i hi => by have := h (i + 1) (by omega); rwa [show d + (i + 1) = d + 1 + i by omega] at this)
  have e2 := tail_join (f := f) (d := d) (k + 1) h
  rw [Lib.size_eq, Lib.size_eq, e1, e2, part_cons, List.map_cons]
  have h0 := h 0 (by omega)
  rw [Lib.size_eq] at h0
  exact join_more _ h0 _
/-- more labels, a longer text -/
theorem tail_grows {f : Nat → ByteArray} {M : Nat} (h : ∀ i, i < M → 0 < (f i).size) : ∀ j k, k + j ≤ M → 0 < j → (tailN f (M - k) k).size < (tailN f (M - (k + j)) (k + j)).size
  | 0, _, _, hj => absurd hj (by omega)
  | 1, k, hk, _ => by
    have := tail_more (f := f) (d := M - (k + 1)) (k := k) (fun i hi => h _ (by omega))
    rwa [show M - (k + 1) + 1 = M - k by omega] at this
  | j + 2, k, hk, _ => by
    have h1 := tail_grows h (j + 1) k (by omega) (by omega)
    have h2 := tail_more (f := f) (d := M - (k + (j + 2))) (k := k + (j + 1)) (fun i hi => h _ (by omega))
    rw [show M - (k + (j + 2)) + 1 = M - (k + (j + 1)) by omega] at h2
    exact Nat.lt_trans h1 h2
theorem tail_inj {f : Nat → ByteArray} {M c d : Nat} (h : ∀ i, i < M → 0 < (f i).size) (hc : c ≤ M) (hd : d ≤ M) (e : (tailN f (M - c) c).size = (tailN f (M - d) d).size) : c = d := by
  rcases Nat.lt_trichotomy c d with hlt | heq | hgt
  · have := tail_grows h (d - c) c (by omega) (by omega)
    rw [show c + (d - c) = d by omega] at this
    omega
  · exact heq
  · have := tail_grows h (c - d) d (by omega) (by omega)
    rw [show d + (c - d) = c by omega] at this
    omega
theorem tail_sub {ho : ByteArray} {k : Nat} (h : k ≤ (splitB ho 46).length) : tailN (atL (splitB (subH ho) 46)) ((splitB (subH ho) 46).length - k) k = tailN (atL (splitB ho 46)) ((splitB ho 46).length - k) k := by
  rw [subH_split, List.length_cons, show (splitB ho 46).length + 1 - k = (splitB ho 46).length - k + 1 by omega, tailN_shift]
  congr 1
theorem site_sub {n : Nat} {f : Nat → ByteArray} {sc ho : ByteArray} (h1 : hostB ho = true) (h2 : hostB (subH ho) = true) (hD : (sufD n f ho).toList.isEmpty = false) (hS : ((sufS n f ho).toList == (sufS n f (subH ho)).toList) = true) : siteT n f sc ho = siteT n f sc (subH ho) := by
  obtain ⟨hm1, -, -⟩ := host_labels h1
  obtain ⟨-, -, hp⟩ := host_labels h2
  have hl : (splitB (subH ho) 46).length = (splitB ho 46).length + 1 := by rw [subH_split, List.length_cons]
  have hc1 : sufC n f ho ≤ (splitB ho 46).length := countN_le n f _ hm1
  have hc2 : sufC n f (subH ho) ≤ (splitB (subH ho) 46).length := countN_le n f _ (by omega)
  have hlt : sufC n f ho < (splitB ho 46).length := by
    by_cases hx : sufC n f ho < (splitB ho 46).length
    · exact hx
    · exfalso
      rw [sufD, if_neg hx] at hD
      simp [Lib.toList_data] at hD
  have e : sufS n f ho = sufS n f (subH ho) := by
    apply bytes_ext
    rw [beq_iff_eq, Lib.toList_data, Lib.toList_data] at hS
    exact hS
  have ec : sufC n f ho = sufC n f (subH ho) := by
    refine tail_inj (f := atL (splitB (subH ho) 46)) (M := (splitB (subH ho) 46).length) (fun i hi => (hp i hi).1) (by omega) hc2 ?_
    rw [tail_sub hc1]
    have e1 : (sufS n f ho).size = (sufS n f (subH ho)).size := by rw [e]
    exact e1
  have ed : sufD n f (subH ho) = sufD n f ho := by
    unfold sufD
    rw [← ec, if_pos hlt, if_pos (by omega)]
    exact tail_sub (by omega)
  unfold siteT siteD
  rw [ed, hD]
  simp
open Go.RowKit in
theorem specSuffix_right (v : Value) (n B : Nat) (f : Nat → ByteArray) (s : ByteArray) (w : World) (hs : SliceS w B v n f) (l1 : n ≤ 1048576) (hf : ∀ i, i < n → (f i).size ≤ 1048576) (h0 : rulesB n f = true) (h1 : hostB s = true) :
    Calls Tryd.prog 46 #[v, .string s] w fun e w' => e = .returned (.agg #[.string (sufS n f s), .string (sufD n f s)]) ∧ Below w.heap.size w w' := by
  have e : sufOf n f s = (sufS n f s, sufD n f s) := by rw [sufOf, if_pos ⟨h0, h1⟩]
  have h := specSuffix_any v n B f s w hs l1 hf
  rw [e] at h; exact h
set_option maxRecDepth 100000 in
theorem field_suffix (a b : ByteArray) (W : World) : Sem.run Tryd.prog (Instr.field 62 (.agg #[.string a, .string b]) 0) W = .ok (.string a) W := by kernel_rfl
end Go.Proofs.YtmlacbjlafdenaaDoor
