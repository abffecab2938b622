/- A slice of bytes that came in, as a law's frame opens it, is a row of a code. -/
import Derived.Test.YtknjkakokcblnaaDoorDraw2
import Derived.ProofKit
import Derived.OpenShut
namespace Go.Proofs.YtknjkakokcblnaaDoor
open Go.ChangeShapes Go.WideShapes Go.ChangeAt Go.RowKit

theorem codeRow_of {H : Type} {enc : TypeId × Value → H} {W : World} {a : Option Addr} {len cap : Nat} {d : DataW H} {p : List MemPlace}
    (h : ∃ fuel, DataW.trod enc Tryd.prog W 0 (fun _ => true) true fuel 22 (Value.slice a len cap).cells.toList = some (d, p)) : CodeRow W a len := by
  obtain ⟨fuel, hf⟩ := h
  rcases open_ints Tryd.underlying22 Tryd.underlying5 (by kernel_rfl) hf with ⟨hcs, _⟩ | ⟨x, l, c, zs, hcs, _, hl, hm, hz, _, hcell, hwz⟩
  · simp [Value.cells] at hcs
    obtain ⟨rfl, rfl, rfl⟩ := hcs
    exact fun i hi => absurd hi (by omega)
  · simp [Value.cells] at hcs
    obtain ⟨rfl, rfl, rfl⟩ := hcs
    intro i hi
    have hz2 : zs.length = cap := by simpa using hz
    have hc := hcell i (by omega)
    have hb := hwz (zs.getD i 0) (by simp [List.getD, show i < zs.length by omega])
    generalize zs.getD i 0 = z at hb hc
    have hbb : 0 ≤ z ∧ z < 256 := by
      simp [Lit.wf, IntKind.min, IntKind.max, IntKind.signed, IntKind.bits] at hb
      omega
    refine ⟨_, _, rfl, ?_, hc, hbb.1, hbb.2⟩
    have : (x.add i).block < W.heap.size := by
      by_cases h : (x.add i).block < W.heap.size
      · exact h
      · exfalso
        simp [World.cell?, Array.getElem?_eq_none (show W.heap.size ≤ (x.add i).block by omega)] at hc
    have e : (x.add i).block = x.block := by
      unfold Addr.add; split
      · rfl
      · rfl
    rw [e] at this; exact this
end Go.Proofs.YtknjkakokcblnaaDoor
