/- Parts, arrays of texts and bytes that came in as arguments. -/
import Derived.Test.YtlopmppiihhnnaaGreatDoorRuFI
import Derived.Test.YtlopmppiihhnnaaGreatDoorArgs
import Derived.Lib.SmallJoins
import Derived.OpenShut
namespace Go.Proofs.YtlopmppiihhnnaaGreatDoor
set_option linter.unusedSimpArgs false
set_option linter.unusedVariables false
open Go Go.ChangeShapes Go.WideShapes Go.RowKit Go.Proofs.MemK

theorem u8_arg {a : Int} (h : (Lit.int .u8 a).wf = true) : ∃ n : Nat, a = (n : Int) ∧ n < 256 := by
  have := bounds_u8 h
  exact ⟨a.toNat, by omega, by omega⟩
theorem strs_cell {H : Type} {enc : TypeId × Value → H} {P : Program} {w : World} {t e : TypeId} {n : Nat} {v : Value} {x : DataW H × List MemPlace} (ht : P.underlying t = some (.slice e)) (he : P.underlying e = some .string) (hc : P.cellsOf e = 1)
    (h : DataW.trod enc P w 0 (fun _ => true) true n t [v] = some x) : ∃ (a : Option Addr) (c : Nat) (l : List (List UInt8)), v = .slice a l.length c ∧ StrAt w (.slice a l.length c) l ∧ l.length ≤ maxLen := by
  have hv : ∃ a len c, v = .slice a len c := by
    rcases open_strings ht he hc h with ⟨hcs, _⟩ | ⟨a, len', cap', ss, hcs, _⟩
    · injection hcs with hv _; exact ⟨_, _, _, hv⟩
    · injection hcs with hv _; exact ⟨_, _, _, hv⟩
  obtain ⟨a, len, c, rfl⟩ := hv
  obtain ⟨l, e1, h1, _, h3⟩ := strAt_arg (a0 := a) (len := len) (cap := c) (d := x.1) (ps := x.2) ht he hc ⟨n, h⟩
  subst e1
  exact ⟨a, c, l, rfl, h1, h3⟩
theorem arr_arg {H : Type} {enc : TypeId × Value → H} {P : Program} {w : World} {t e : TypeId} {n : Nat} {r : Reach} {b0 : Nat} {v : Value} {d : DataW H} {ps : List MemPlace} (ht : P.underlying t = some (.array n e)) (he : P.underlying e = some .string) (hc : P.cellsOf e = 1) (hC : P.cellsOf t = n)
    (hval : Value.okWide P w r b0 t v) (h : DataW.Trod enc P w 0 (fun _ => true) true t v d ps) : ∃ l : List (List UInt8), l.length = n ∧ v = .agg (sc l).toArray := by
  have hv : ∃ cs, v = .agg cs := by
    simp only [Value.okWide, ht] at hval
    obtain ⟨cs, h1, _⟩ := hval
    exact ⟨cs, h1⟩
  obtain ⟨cs, rfl⟩ := hv
  obtain ⟨fuel, hf⟩ := h
  obtain ⟨xs, m, _, _, hl, hxl, hel⟩ := DataW.trod_array ht hf
  rw [hC] at hl
  rw [hc] at hel
  have hcl : cs.toList.length = n := by simpa [Value.cells] using hl
  obtain ⟨q, hq⟩ := Deep.choose_lt (α := ByteArray) (n := n) (p := fun i s => cs.toList[i]? = some (.string s)) (fun i hi => by
    have h1 := hel i hi
    rw [List.getElem?_eq_getElem (by omega)] at h1
    obtain ⟨s, e1, _⟩ := DataW.trod_string he h1
    refine ⟨s, ?_⟩
    have h2 : ((cs.toList.drop i).take 1)[0]? = some (.string s) := by
      have e2 : (cs.toList.drop (i * 1)).take 1 = [.string s] := by simpa [Value.cells] using e1
      rw [Nat.mul_one] at e2
      rw [e2]; rfl
    simpa using h2)
  refine ⟨(List.range n).map fun i => (q i).data.toList, by simp, ?_⟩
  congr 1
  apply Array.ext'
  apply List.ext_getElem (by simp [sc]; omega)
  intro i h1 h2
  have h3 : i < n := by omega
  have h4 := hq i h3
  rw [List.getElem?_eq_getElem h1] at h4
  rw [Option.some.inj h4]
  simp [sc]
theorem arr2_arg {H : Type} {enc : TypeId × Value → H} {P : Program} {w : World} {t e : TypeId} {r : Reach} {b0 : Nat} {v : Value} {d : DataW H} {ps : List MemPlace} (ht : P.underlying t = some (.array 2 e)) (he : P.underlying e = some .string) (hc : P.cellsOf e = 1) (hC : P.cellsOf t = 2)
    (hval : Value.okWide P w r b0 t v) (h : DataW.Trod enc P w 0 (fun _ => true) true t v d ps) : ∃ x y : List UInt8, v = .agg #[.string ⟨x.toArray⟩, .string ⟨y.toArray⟩] := by
  obtain ⟨l, hl, rfl⟩ := arr_arg ht he hc hC hval h
  match l, hl with
  | [x, y], _ => exact ⟨x, y, rfl⟩
theorem arr3_arg {H : Type} {enc : TypeId × Value → H} {P : Program} {w : World} {t e : TypeId} {r : Reach} {b0 : Nat} {v : Value} {d : DataW H} {ps : List MemPlace} (ht : P.underlying t = some (.array 3 e)) (he : P.underlying e = some .string) (hc : P.cellsOf e = 1) (hC : P.cellsOf t = 3)
    (hval : Value.okWide P w r b0 t v) (h : DataW.Trod enc P w 0 (fun _ => true) true t v d ps) : ∃ x y z : List UInt8, v = .agg #[.string ⟨x.toArray⟩, .string ⟨y.toArray⟩, .string ⟨z.toArray⟩] := by
  obtain ⟨l, hl, rfl⟩ := arr_arg ht he hc hC hval h
  match l, hl with
  | [x, y, z], _ => exact ⟨x, y, z, rfl⟩
theorem sb_c9 : Tryz.prog.cellsOf 9 = 1 := by kernel_rfl
theorem sb_c3 : Tryz.prog.cellsOf 25 = 3 := by kernel_rfl
set_option maxRecDepth 100000 in
theorem subs_arg {H : Type} {enc : TypeId × Value → H} {w : World} {r : Reach} {b0 : Nat} {v : Value} {d : DataW H} {ps : List MemPlace} (hval : Value.okWide Tryz.prog w r b0 25 v)
    (h : DataW.Trod enc Tryz.prog w 0 (fun _ => true) true 25 v d ps) : ∃ (h t : List UInt8) (ms : List (List UInt8)) (a : Option Addr) (c : Nat), v = .agg #[.string ⟨h.toArray⟩, .slice a ms.length c, .string ⟨t.toArray⟩] ∧ TxR w (.slice a ms.length c) ms ∧ ms.length ≤ maxLen := by
  obtain ⟨v0, v1, v2, y0, y1, y2, n, rfl, _, _, g0, g1, g2⟩ := Joins.open_agg3 Tryz.underlying25 (by kernel_rfl) sb_c3 hval h
  obtain ⟨s0, e0, _⟩ := DataW.trod_string Tryz.underlying9 g0
  obtain ⟨s2, e2, _⟩ := DataW.trod_string Tryz.underlying9 g2
  obtain ⟨a, c, l, rfl, hs, hl⟩ := strs_cell Tryz.underlying23 Tryz.underlying9 sb_c9 g1
  injection e0 with e0
  injection e2 with e2
  subst e0 e2
  exact ⟨s0.data.toList, s2.data.toList, l, a, c, by simp, txR_str hs, hl⟩
end Go.Proofs.YtlopmppiihhnnaaGreatDoor
