/- Names in memory; whether a part has a type; whether a part, and a name, may be. -/
import Derived.Test.YtdmjnfadhlgpkaaGreatDoorDnC
import Derived.Test.YtdmjnfadhlgpkaaGreatDoorDnD
import Derived.Deep.RegionHeld3
namespace Go.Proofs.YtdmjnfadhlgpkaaGreatDoor
set_option linter.unusedSimpArgs false
set_option linter.unusedVariables false
open Go Go.RowKit Go.Proofs.BerK Go.Proofs.MemK Go.Proofs.UtfK

/-- The pairs of a part lie in memory, one behind the other. -/
def AvAt (w : World) (v : Value) (r : List Av) : Prop :=
  ∃ a c, v = .slice a r.length c ∧ r.length ≤ c ∧ ∀ i (h : i < r.length), ∃ g o, a = some ⟨g, o, none⟩ ∧ g < w.heap.size ∧ w.cell? ⟨g, o + i * 2, none⟩ = some (.string ⟨r[i].1.toArray⟩) ∧ w.cell? ⟨g, o + i * 2 + 1, none⟩ = some (.string ⟨r[i].2.toArray⟩)
/-- The parts of a name lie in memory. -/
def DnAt (w : World) (v : Value) (d : List (List Av)) : Prop :=
  ∃ a c, v = .slice a d.length c ∧ d.length ≤ c ∧ ∀ i (h : i < d.length), ∃ g o u, a = some ⟨g, o, none⟩ ∧ g < w.heap.size ∧ w.cell? ⟨g, o + i, none⟩ = some u ∧ AvAt w u d[i]
theorem avAt_below {w w' : World} {v : Value} {r : List Av} (h : AvAt w v r) (hb : Below w.heap.size w w') : AvAt w' v r := by
  obtain ⟨a, c, rfl, hcap, h⟩ := h
  refine ⟨a, c, rfl, hcap, fun i hi => ?_⟩
  obtain ⟨g, o, rfl, hg, h1, h2⟩ := h i hi
  exact ⟨g, o, rfl, Nat.lt_of_lt_of_le hg hb.size, (hb.cell (p := ⟨g, _, none⟩) hg).trans h1, (hb.cell (p := ⟨g, _, none⟩) hg).trans h2⟩
theorem dnAt_below {w w' : World} {v : Value} {d : List (List Av)} (h : DnAt w v d) (hb : Below w.heap.size w w') : DnAt w' v d := by
  obtain ⟨a, c, rfl, hcap, h⟩ := h
  refine ⟨a, c, rfl, hcap, fun i hi => ?_⟩
  obtain ⟨g, o, u, rfl, hg, h1, h2⟩ := h i hi
  exact ⟨g, o, u, rfl, Nat.lt_of_lt_of_le hg hb.size, (hb.cell (p := ⟨g, _, none⟩) hg).trans h1, avAt_below h2 hb⟩

theorem avAt_take {w : World} {v : Value} {r : List Av} (h : AvAt w v r) (k : Nat) (hk : k ≤ r.length) : ∃ a c, v = .slice a r.length c ∧ AvAt w (.slice a k c) (r.take k) := by
  obtain ⟨a, c, rfl, hcap, h⟩ := h
  have hl : (r.take k).length = k := by simp; omega
  refine ⟨a, c, rfl, a, c, by rw [hl], by omega, fun i hi => ?_⟩
  obtain ⟨g, o, rfl, hg, h1, h2⟩ := h i (by omega)
  exact ⟨g, o, rfl, hg, by rw [h1, List.getElem_take], by rw [h2, List.getElem_take]⟩

/-! ### hasType -/
theorem any_take {α : Type} (p : α → Bool) (r : List α) (k : Nat) (h : k < r.length) : (r.take (k + 1)).any p = ((r.take k).any p || p r[k]) := by
  rw [List.take_succ_eq_append_getElem h, List.any_append]; simp
theorem beq_str (x y : List UInt8) : ((⟨x.toArray⟩ : ByteArray).toList == (⟨y.toArray⟩ : ByteArray).toList) = (x == y) := by rw [ByteArray.toList_eq, ByteArray.toList_eq]
set_option maxHeartbeats 1600000 in
set_option maxRecDepth 100000 in
theorem dhas1_any (T V : List UInt8) (s : ByteArray) (b : Nat) (w : World) (hs : w.cell? ⟨b, 0, none⟩ = some (.string s)) (hbl : b < w.heap.size) :
    Calls Tryz.prog 106 #[.agg #[.string ⟨T.toArray⟩, .string ⟨V.toArray⟩], .pointer (some ⟨b, 0, none⟩)] w (BoolPost (lowL T == lowL s.data.toList) w) := by
  go_enter Tryz.func106, Tryz.ntmps106
  go_wp2
  obtain ⟨W, hW⟩ : ∃ W, w.alloc (.cells #[.string ⟨T.toArray⟩, .string ⟨V.toArray⟩] 60) = W := ⟨_, rfl⟩
  have hb0 : Below w.heap.size w W := by rw [← hW]; exact (Below.refl _ w).alloc (Nat.le_refl _) _
  have hc0 : W.cell? ⟨w.heap.size, 0, none⟩ = some (.string ⟨T.toArray⟩) := by rw [← hW, World.cell?_alloc_mark w _ _ (0, 0)]; rfl
  have hc1 : W.cell? ⟨b, 0, none⟩ = some (.string s) := (hb0.cell (p := ⟨b, 0, none⟩) hbl).trans hs
  have hz : w.heap.size < W.heap.size := by rw [← hW]; simp
  have hbz : b < W.heap.size := by omega
  rw [hW]
  clear hW
  go_region_held3 (fun w' => w'.cell? ⟨w.heap.size, 0, none⟩ = some (.string ⟨T.toArray⟩) ∧ w'.cell? ⟨b, 0, none⟩ = some (.string s)) (first | exact ⟨hd0, hd1⟩ | exact ⟨hc0, hc1⟩ | go_keep)
    (first | (go_at_call 42; refine (lower_any _ _).mono ?_; rintro en w3 ⟨rfl, hb3⟩; have hbW : Below W.heap.size W w3 := (by first | exact hbW.trans (hb3.mono hbW.size) | exact (Below.refl _ W).drew.trans hb3); have hd0 := (hbW.cell (p := ⟨w.heap.size, 0, none⟩) hz).trans hc0; have hd1 := (hbW.cell (p := ⟨b, 0, none⟩) hbz).trans hc1))
  go_wp2
  go_ret
  exact ⟨rfl, hb0.trans (hbW.mono hb0.size)⟩
set_option maxHeartbeats 1600000 in
set_option maxRecDepth 100000 in
theorem dhasf_any (v : Value) (r : List Av) (s : ByteArray) (b : Nat) (w : World) (h : AvAt w v r) (hs : w.cell? ⟨b, 0, none⟩ = some (.string s)) (hbl : b < w.heap.size) (hr : r.length ≤ 9223372036854775807) :
    Calls Tryz.prog 115 #[v, .func (.func 106) #[] #[.pointer (some ⟨b, 0, none⟩)]] w
      (fun e w' => (∃ n : Int, e = .returned (.int .i64 n) ∧ decide (n ≥ 0) = r.any fun q => lowL q.1 == lowL s.data.toList) ∧ Below w.heap.size w w') := by
  obtain ⟨a, c, rfl, hcap, h⟩ := h
  go_enter Tryz.func115, Tryz.ntmps115
  go_wp2
  go_loopw [8] (fun v wr => ∃ k : Nat, k ≤ r.length ∧ v = .int .i64 (k : Nat) ∧ Below w.heap.size w wr ∧ (r.take k).any (fun q => lowL q.1 == lowL s.data.toList) = false) (fun v _ => r.length - (intOf v).toNat)
  case atStart => exact ⟨0, by omega, rfl, Below.refl _ _, rfl⟩
  case round =>
    obtain ⟨k, hk, rfl, hb, hany⟩ := hrel
    by_cases hlt : k < r.length
    · obtain ⟨g, o, rfl, hg, h1, h2⟩ := h k hlt
      have hkl : (k : Int) < (r.length : Int) := by omega
      have c1 := (hb.cell (p := ⟨g, _, none⟩) hg).trans h1
      have c2 := (hb.cell (p := ⟨g, _, none⟩) hg).trans h2
      have HC := Lib.hid (dhas1_any r[k].1 r[k].2 s b wr ((hb.cell (p := ⟨b, 0, none⟩) hbl).trans hs) (Nat.lt_of_lt_of_le hbl hb.size))
      have hstep := any_take (fun q : Av => lowL q.1 == lowL s.data.toList) r k hlt
      rw [hany, Bool.false_or] at hstep
      obtain ⟨T, hT⟩ : ∃ T, r[k].1 = T := ⟨_, rfl⟩
      obtain ⟨V, hV⟩ : ∃ V, r[k].2 = V := ⟨_, rfl⟩
      rw [hT] at c1 HC hstep
      rw [hV] at c2 HC
      obtain ⟨q, hq⟩ : ∃ q, (lowL T == lowL s.data.toList) = q := ⟨_, rfl⟩
      rw [hq] at HC hstep
      have H := Lib.hid (And.intro hb hstep)
      clear hany hb hstep
      cases q
      · go_wp2_with fail
        refine HC.out.mono ?_
        rintro e w2 ⟨rfl, hb2⟩
        go_wp2
        refine ⟨⟨k + 1, by omega, by go_num, H.out.1.trans (hb2.mono H.out.1.size), H.out.2⟩, by simp [intOf]; omega⟩
      · go_wp2_with fail
        refine HC.out.mono ?_
        rintro e w2 ⟨rfl, hb2⟩
        go_wp2
        go_ret
        refine ⟨⟨k, rfl, ?_⟩, H.out.1.trans (hb2.mono H.out.1.size)⟩
        have h9 := H.out.2
        have h10 : (r.any fun q => lowL q.1 == lowL s.data.toList) = true := by
          rw [List.any_eq_true] at h9 ⊢
          obtain ⟨x, hx, hp⟩ := h9
          exact ⟨x, List.mem_of_mem_take hx, hp⟩
        rw [h10]; simp
    · obtain rfl : k = r.length := by omega
      rw [List.take_length] at hany
      have H := Lib.hid (And.intro hb hany)
      clear hb hany
      go_wp2
      go_ret
      exact ⟨⟨-1, rfl, by rw [H.out.2]; rfl⟩, H.out.1⟩
set_option maxHeartbeats 800000 in
set_option maxRecDepth 100000 in
theorem dhas_any (v : Value) (r : List Av) (s : ByteArray) (w : World) (h : AvAt w v r) (hr : r.length ≤ 9223372036854775807) :
    Calls Tryz.prog 87 #[v, .string s] w (BoolPost (r.any fun q => lowL q.1 == lowL s.data.toList) w) := by
  obtain ⟨W, hW⟩ : ∃ W, w.alloc (.cells #[.string s] 9) = W := ⟨_, rfl⟩
  have hb0 : Below w.heap.size w W := by rw [← hW]; exact (Below.refl _ w).alloc (Nat.le_refl _) _
  have hc0 : W.cell? ⟨w.heap.size, 0, none⟩ = some (.string s) := by rw [← hW, World.cell?_alloc_mark w _ _ (0, 0)]; rfl
  have hz : w.heap.size < W.heap.size := by rw [← hW]; simp
  have HC := Lib.hid (dhasf_any v r s w.heap.size W (avAt_below h hb0) hc0 hz hr)
  have H := Lib.hid hb0
  obtain ⟨a, c, rfl, _, _⟩ := h
  clear hb0 hc0 hz
  go_enter Tryz.func87, Tryz.ntmps87
  go_wp2_with fail
  go_in
  go_wp2_with fail
  refine HC.out.mono ?_
  rintro e w2 ⟨⟨n, rfl, hn⟩, hb2⟩
  have HN := Lib.hid hn
  clear hn
  go_wp2
  go_ret
  refine ⟨?_, H.out.trans (hb2.mono H.out.size)⟩
  rw [← HN.out]
  rfl
end Go.Proofs.YtdmjnfadhlgpkaaGreatDoor
