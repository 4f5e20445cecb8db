/- Rules put behind other ones: 'append(l[:len(l):len(l)], m...)'. -/
import Derived.Test.YtbihhdkmmlldnaaGreatDoorAcA
import Derived.Test.YtbihhdkmmlldnaaGreatDoorInts
namespace Go.Proofs.YtbihhdkmmlldnaaGreatDoor
set_option linter.unusedSimpArgs false
set_option linter.unusedVariables false
open Go Go.RowKit Go.Proofs.BerK Go.Proofs.MemK Go.Proofs.UtfK

theorem Tryz.acinfo : (Tryz.prog.info? 34).map (fun i => (i.zero, i.size, i.bytes)) = some (some (.agg #[.string ByteArray.empty, .string ByteArray.empty, .string ByteArray.empty, .int .i64 0, .bool false]), 5, 64) := by kernel_rfl
theorem rlAt_addr {w : World} {a : Option Addr} {n c : Nat} {l : List Rl} (h : RlAt w (.slice a n c) l) (h0 : 0 < l.length) : ∃ g o, a = some ⟨g, o, none⟩ ∧ g < w.heap.size ∧ ∀ j u, (rlCs l)[j]? = some u → w.cell? ⟨g, o + j, none⟩ = some u := by
  obtain ⟨a', c', hv, h⟩ := h
  injection hv with h1 h2 h3
  subst h1 h3
  obtain ⟨g, o, rfl, hg, _⟩ := h 0 h0
  refine ⟨g, o, rfl, hg, fun j u hj => ?_⟩
  have hjl : j < l.length * 5 := by
    have := (List.getElem?_eq_some_iff.1 hj).1
    rw [rlCs_len] at this
    exact this
  have hi : j / 5 < l.length := by omega
  obtain ⟨g', o', h1, _, h3⟩ := h (j / 5) hi
  injection h1 with h1
  injection h1 with h1 h2
  subst h1 h2
  have hq : j % 5 < 5 := by omega
  have e : j / 5 * 5 + j % 5 = j := by omega
  have := h3 (j % 5) hq
  rw [Nat.add_assoc, e, ← rlCs_at l (j / 5) hi (j % 5) hq, e, hj] at this
  exact this
theorem rl_append {w : World} {ops : Array Oper} {rest : List Oper} {o : Oper} {a : Act} {Q : Exit → Act → World → Prop} (hgd : o.guard = none) (s x : Operand)
    (ho : o.op = .call { callee := .builtin .append, args := #[s, x], argTypes := #[22, 22] })
    (al : Option Addr) (l m : List Rl) (hs : a.eval s = .slice al l.length l.length) (hl : RlAt w (.slice al l.length l.length) l) (v : Value) (hx : a.eval x = v) (hm : RlAt w v m) (hlen : l.length + m.length ≤ 1000000)
    (h : ∀ a' c' w', RlAt w' (.slice a' (l ++ m).length c') (l ++ m) → Below w.heap.size w w' → wpList Tryz.prog ops Q rest (a.put o.dst (.slice a' (l ++ m).length c')) w') :
    wpList Tryz.prog ops Q (o :: rest) a w := by
  have ht := Tryz.underlying22
  obtain ⟨i, hi, hz0, hz1, hz2⟩ := info_parts Tryz.acinfo
  by_cases h0 : m = []
  · subst h0
    obtain ⟨b, c, rfl, _⟩ := hm
    refine wpList_plain hgd fun K hK => ?_
    have hrun := Go.run_append_nothing (P := Tryz.prog) w 22 22 o.type 34 i ht hi al l.length l.length (Nat.le_refl _) (.slice b 0 c) (src_empty _ 22 34 ht b c w)
    unfold Oper.wp
    simp [execOp, ho, resolve, invoke, builtin, hs, hx, hrun, Result.andThen]
    have hh := h al l.length w (by rw [List.append_nil]; exact hl) (Below.refl _ _)
    rw [List.append_nil] at hh
    exact hK _ _ hh
  · have hm0 : 0 < m.length := by cases m with
      | nil => exact absurd rfl h0
      | cons x r => simp
    have hm' := hm
    obtain ⟨b, c, rfl, _⟩ := hm'
    obtain ⟨g, off, rfl, hg, hcell⟩ := rlAt_addr hm hm0
    refine wpList_append_grows w hgd s x 22 ho 34 i _ 5 64 ht hi hz0 hz1 hz2 rfl (by decide) al l.length l.length (rlCs l) hs (fun hn => ?_) (rlCs_len l) (fun b hb j u hj => ?_) ⟨g, off, none⟩ m.length c (rlCs m) hx (rlCs_len m) (fun j u hj => ?_) (rlCs_one m) (by omega) (by unfold maxLen; omega) (by omega) fun v' w' h1 h2 => ?_
    · by_cases hl0 : 0 < l.length
      · obtain ⟨_, _, h3, _⟩ := rlAt_addr hl hl0
        rw [hn] at h3; cases h3
      · omega
    · have hjl : 0 < l.length := by
        have := (List.getElem?_eq_some_iff.1 hj).1
        rw [rlCs_len] at this
        omega
      obtain ⟨g2, o2, h3, _, h4⟩ := rlAt_addr hl hjl
      rw [hb] at h3
      obtain rfl := Option.some.inj h3
      rw [add_at, h4 j u hj]
    · rw [add_at, hcell j u hj]
    · obtain ⟨a', c', rfl⟩ := ownsRow_slice h1
      have h1' : w'.ownsRow w.heap.size 34 5 (.slice a' (l ++ m).length c') (l ++ m).length (rlCs (l ++ m)) := by
        rw [List.length_append, rlCs_app]
        exact h1
      have hh := h a' c' w' (rlAt_owns h1') ⟨h2.os, h2.tape, h2.output, h2.size, fun k hk => h2.block k hk (by simp)⟩
      rw [List.length_append] at hh
      exact hh
end Go.Proofs.YtbihhdkmmlldnaaGreatDoor
