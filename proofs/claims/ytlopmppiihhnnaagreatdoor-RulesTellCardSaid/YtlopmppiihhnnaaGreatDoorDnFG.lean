/- Names in memory; whether a part has a type; whether a part, and a name, may be. Whether a part, and a name, may be: the code's side. -/
import Derived.Test.YtlopmppiihhnnaaGreatDoorDnC
import Derived.Test.YtlopmppiihhnnaaGreatDoorDnD
import Derived.Deep.RegionHeld3
namespace Go.Proofs.YtlopmppiihhnnaaGreatDoor
set_option linter.unusedSimpArgs false
set_option linter.unusedVariables false
open Go Go.RowKit Go.Proofs.BerK Go.Proofs.MemK Go.Proofs.UtfK

/-- The pairs of a part lie in memory, one behind the other. -/
def AvAt (w : World) (v : Value) (r : List Av) : Prop :=
  ∃ a c, v = .slice a r.length c ∧ r.length ≤ c ∧ ∀ i (h : i < r.length), ∃ g o, a = some ⟨g, o, none⟩ ∧ g < w.heap.size ∧ w.cell? ⟨g, o + i * 2, none⟩ = some (.string ⟨r[i].1.toArray⟩) ∧ w.cell? ⟨g, o + i * 2 + 1, none⟩ = some (.string ⟨r[i].2.toArray⟩)
/-- The parts of a name lie in memory. -/
def DnAt (w : World) (v : Value) (d : List (List Av)) : Prop :=
  ∃ a c, v = .slice a d.length c ∧ d.length ≤ c ∧ ∀ i (h : i < d.length), ∃ g o u, a = some ⟨g, o, none⟩ ∧ g < w.heap.size ∧ w.cell? ⟨g, o + i, none⟩ = some u ∧ AvAt w u d[i]
theorem avAt_below {w w' : World} {v : Value} {r : List Av} (h : AvAt w v r) (hb : Below w.heap.size w w') : AvAt w' v r := by
  obtain ⟨a, c, rfl, hcap, h⟩ := h
  refine ⟨a, c, rfl, hcap, fun i hi => ?_⟩
  obtain ⟨g, o, rfl, hg, h1, h2⟩ := h i hi
  exact ⟨g, o, rfl, Nat.lt_of_lt_of_le hg hb.size, (hb.cell (p := ⟨g, _, none⟩) hg).trans h1, (hb.cell (p := ⟨g, _, none⟩) hg).trans h2⟩
theorem dnAt_below {w w' : World} {v : Value} {d : List (List Av)} (h : DnAt w v d) (hb : Below w.heap.size w w') : DnAt w' v d := by
  obtain ⟨a, c, rfl, hcap, h⟩ := h
  refine ⟨a, c, rfl, hcap, fun i hi => ?_⟩
  obtain ⟨g, o, u, rfl, hg, h1, h2⟩ := h i hi
  exact ⟨g, o, u, rfl, Nat.lt_of_lt_of_le hg hb.size, (hb.cell (p := ⟨g, _, none⟩) hg).trans h1, avAt_below h2 hb⟩

theorem avAt_take {w : World} {v : Value} {r : List Av} (h : AvAt w v r) (k : Nat) (hk : k ≤ r.length) : ∃ a c, v = .slice a r.length c ∧ AvAt w (.slice a k c) (r.take k) := by
  obtain ⟨a, c, rfl, hcap, h⟩ := h
  have hl : (r.take k).length = k := by simp; omega
  refine ⟨a, c, rfl, a, c, by rw [hl], by omega, fun i hi => ?_⟩
  obtain ⟨g, o, rfl, hg, h1, h2⟩ := h i (by omega)
  exact ⟨g, o, rfl, hg, by rw [h1, List.getElem_take], by rw [h2, List.getElem_take]⟩

/-! ### hasType -/
theorem any_take {α : Type} (p : α → Bool) (r : List α) (k : Nat) (h : k < r.length) : (r.take (k + 1)).any p = ((r.take k).any p || p r[k]) := by
  rw [List.take_succ_eq_append_getElem h, List.any_append]; simp
theorem beq_str (x y : List UInt8) : ((⟨x.toArray⟩ : ByteArray).toList == (⟨y.toArray⟩ : ByteArray).toList) = (x == y) := by rw [ByteArray.toList_eq, ByteArray.toList_eq]
set_option maxHeartbeats 1600000 in
set_option maxRecDepth 100000 in
theorem dhas1_any (T V : List UInt8) (s : ByteArray) (b : Nat) (w : World) (hs : w.cell? ⟨b, 0, none⟩ = some (.string s)) (hbl : b < w.heap.size) :
    Calls Tryz.prog 127 #[.agg #[.string ⟨T.toArray⟩, .string ⟨V.toArray⟩], .pointer (some ⟨b, 0, none⟩)] w (BoolPost (lowL T == lowL s.data.toList) w) := by
  go_enter Tryz.func127, Tryz.ntmps127
  go_wp2
  obtain ⟨W, hW⟩ : ∃ W, w.alloc (.cells #[.string ⟨T.toArray⟩, .string ⟨V.toArray⟩] 65) = W := ⟨_, rfl⟩
  have hb0 : Below w.heap.size w W := by rw [← hW]; exact (Below.refl _ w).alloc (Nat.le_refl _) _
  have hc0 : W.cell? ⟨w.heap.size, 0, none⟩ = some (.string ⟨T.toArray⟩) := by rw [← hW, World.cell?_alloc_mark w _ _ (0, 0)]; rfl
  have hc1 : W.cell? ⟨b, 0, none⟩ = some (.string s) := (hb0.cell (p := ⟨b, 0, none⟩) hbl).trans hs
  have hz : w.heap.size < W.heap.size := by rw [← hW]; simp
  have hbz : b < W.heap.size := by omega
  rw [hW]
  clear hW
  go_region_held3 (fun w' => w'.cell? ⟨w.heap.size, 0, none⟩ = some (.string ⟨T.toArray⟩) ∧ w'.cell? ⟨b, 0, none⟩ = some (.string s)) (first | exact ⟨hd0, hd1⟩ | exact ⟨hc0, hc1⟩ | go_keep)
    (first | (go_at_call 16; refine (lower_any _ _).mono ?_; rintro en w3 ⟨rfl, hb3⟩; have hbW : Below W.heap.size W w3 := (by first | exact hbW.trans (hb3.mono hbW.size) | exact (Below.refl _ W).drew.trans hb3); have hd0 := (hbW.cell (p := ⟨w.heap.size, 0, none⟩) hz).trans hc0; have hd1 := (hbW.cell (p := ⟨b, 0, none⟩) hbz).trans hc1))
  go_wp2
  go_ret
  exact ⟨rfl, hb0.trans (hbW.mono hb0.size)⟩
set_option maxHeartbeats 1600000 in
set_option maxRecDepth 100000 in
theorem dhasf_any (v : Value) (r : List Av) (s : ByteArray) (b : Nat) (w : World) (h : AvAt w v r) (hs : w.cell? ⟨b, 0, none⟩ = some (.string s)) (hbl : b < w.heap.size) (hr : r.length ≤ 9223372036854775807) :
    Calls Tryz.prog 133 #[v, .func (.func 127) #[] #[.pointer (some ⟨b, 0, none⟩)]] w
      (fun e w' => (∃ n : Int, e = .returned (.int .i64 n) ∧ decide (n ≥ 0) = r.any fun q => lowL q.1 == lowL s.data.toList) ∧ Below w.heap.size w w') := by
  obtain ⟨a, c, rfl, hcap, h⟩ := h
  go_enter Tryz.func133, Tryz.ntmps133
  go_wp2
  go_loopw [8] (fun v wr => ∃ k : Nat, k ≤ r.length ∧ v = .int .i64 (k : Nat) ∧ Below w.heap.size w wr ∧ (r.take k).any (fun q => lowL q.1 == lowL s.data.toList) = false) (fun v _ => r.length - (intOf v).toNat)
  case atStart => exact ⟨0, by omega, rfl, Below.refl _ _, rfl⟩
  case round =>
    obtain ⟨k, hk, rfl, hb, hany⟩ := hrel
    by_cases hlt : k < r.length
    · obtain ⟨g, o, rfl, hg, h1, h2⟩ := h k hlt
      have hkl : (k : Int) < (r.length : Int) := by omega
      have c1 := (hb.cell (p := ⟨g, _, none⟩) hg).trans h1
      have c2 := (hb.cell (p := ⟨g, _, none⟩) hg).trans h2
      have HC := Lib.hid (dhas1_any r[k].1 r[k].2 s b wr ((hb.cell (p := ⟨b, 0, none⟩) hbl).trans hs) (Nat.lt_of_lt_of_le hbl hb.size))
      have hstep := any_take (fun q : Av => lowL q.1 == lowL s.data.toList) r k hlt
      rw [hany, Bool.false_or] at hstep
      obtain ⟨T, hT⟩ : ∃ T, r[k].1 = T := ⟨_, rfl⟩
      obtain ⟨V, hV⟩ : ∃ V, r[k].2 = V := ⟨_, rfl⟩
      rw [hT] at c1 HC hstep
      rw [hV] at c2 HC
      obtain ⟨q, hq⟩ : ∃ q, (lowL T == lowL s.data.toList) = q := ⟨_, rfl⟩
      rw [hq] at HC hstep
      have H := Lib.hid (And.intro hb hstep)
      clear hany hb hstep
      cases q
      · go_wp2_with fail
        refine HC.out.mono ?_
        rintro e w2 ⟨rfl, hb2⟩
        go_wp2
        refine ⟨⟨k + 1, by omega, by go_num, H.out.1.trans (hb2.mono H.out.1.size), H.out.2⟩, by simp [intOf]; omega⟩
      · go_wp2_with fail
        refine HC.out.mono ?_
        rintro e w2 ⟨rfl, hb2⟩
        go_wp2
        go_ret
        refine ⟨⟨k, rfl, ?_⟩, H.out.1.trans (hb2.mono H.out.1.size)⟩
        have h9 := H.out.2
        have h10 : (r.any fun q => lowL q.1 == lowL s.data.toList) = true := by
          rw [List.any_eq_true] at h9 ⊢
          obtain ⟨x, hx, hp⟩ := h9
          exact ⟨x, List.mem_of_mem_take hx, hp⟩
        rw [h10]; simp
    · obtain rfl : k = r.length := by omega
      rw [List.take_length] at hany
      have H := Lib.hid (And.intro hb hany)
      clear hb hany
      go_wp2
      go_ret
      exact ⟨⟨-1, rfl, by rw [H.out.2]; rfl⟩, H.out.1⟩
set_option maxHeartbeats 800000 in
set_option maxRecDepth 100000 in
theorem dhas_any (v : Value) (r : List Av) (s : ByteArray) (w : World) (h : AvAt w v r) (hr : r.length ≤ 9223372036854775807) :
    Calls Tryz.prog 107 #[v, .string s] w (BoolPost (r.any fun q => lowL q.1 == lowL s.data.toList) w) := by
  obtain ⟨W, hW⟩ : ∃ W, w.alloc (.cells #[.string s] 9) = W := ⟨_, rfl⟩
  have hb0 : Below w.heap.size w W := by rw [← hW]; exact (Below.refl _ w).alloc (Nat.le_refl _) _
  have hc0 : W.cell? ⟨w.heap.size, 0, none⟩ = some (.string s) := by rw [← hW, World.cell?_alloc_mark w _ _ (0, 0)]; rfl
  have hz : w.heap.size < W.heap.size := by rw [← hW]; simp
  have HC := Lib.hid (dhasf_any v r s w.heap.size W (avAt_below h hb0) hc0 hz hr)
  have H := Lib.hid hb0
  obtain ⟨a, c, rfl, _, _⟩ := h
  clear hb0 hc0 hz
  go_enter Tryz.func107, Tryz.ntmps107
  go_wp2_with fail
  go_in
  go_wp2_with fail
  refine HC.out.mono ?_
  rintro e w2 ⟨⟨n, rfl, hn⟩, hb2⟩
  have HN := Lib.hid hn
  clear hn
  go_wp2
  go_ret
  refine ⟨?_, H.out.trans (hb2.mono H.out.size)⟩
  rw [← HN.out]
  rfl
end Go.Proofs.YtlopmppiihhnnaaGreatDoor
namespace Go.Proofs.YtlopmppiihhnnaaGreatDoor
set_option linter.unusedSimpArgs false
set_option linter.unusedVariables false
open Go Go.RowKit Go.Proofs.BerK Go.Proofs.MemK Go.Proofs.UtfK

theorem pg_step (r : List Av) (k : Nat) (h : k < r.length) : pgL (r.take k) (r.drop k) = (avOk r[k] && !twL (r.take k) r[k] && pgL (r.take (k + 1)) (r.drop (k + 1))) := by
  rw [drop_at r k h, pgL, List.take_succ_eq_append_getElem h]
theorem pg_end (r : List Av) : pgL (r.take r.length) (r.drop r.length) = true := by rw [List.drop_length]; rfl
theorem avOk_ways (p : Av) : (avOk p = false ∧ (tyL p.1 = false ∨ (tyL p.1 = true ∧ p.2 = []) ∨ (tyL p.1 = true ∧ p.2 ≠ [] ∧ 256 < p.2.length))) ∨ (avOk p = true ∧ tyL p.1 = true ∧ p.2 ≠ [] ∧ p.2.length ≤ 256) := by
  unfold avOk
  cases tyL p.1 <;> by_cases h : p.2 = [] <;> by_cases h2 : p.2.length ≤ 256 <;> simp [h, h2] <;> omega
theorem iE_nil : (⟨([] : List UInt8).toArray⟩ : ByteArray).toList.isEmpty = true := by rw [ByteArray.toList_eq]; rfl
theorem iE_ne (l : List UInt8) (h : l ≠ []) : (⟨l.toArray⟩ : ByteArray).toList.isEmpty = false := by
  rw [ByteArray.toList_eq]
  cases l with
  | nil => exact absurd rfl h
  | cons a l => rfl

set_option maxHeartbeats 3200000 in
set_option maxRecDepth 100000 in
theorem dpart_any (v : Value) (r : List Av) (w : World) (h : AvAt w v r) :
    Calls Tryz.prog 82 #[v] w (BoolPost (prL r) w) := by
  obtain ⟨a, c, hv, hcap, _⟩ := id h
  by_cases h0 : r.length < 1 ∨ 8 < r.length
  · have H := Lib.hid (show prL r = false by simp only [prL, Bool.and_eq_false_iff, decide_eq_false_iff_not]; omega)
    have h0' : (r.length : Int) < 1 ∨ (1 ≤ (r.length : Int) ∧ (8 : Int) < (r.length : Int)) := by omega
    subst hv
    clear h0 h
    rcases h0' with h0 | ⟨h0, h1⟩
    all_goals
      go_enter Tryz.func82, Tryz.ntmps82
      go_wp2
      go_ret
      exact boolPost_mk H.out (Below.refl _ _)
  · have h1 : (1 : Int) ≤ (r.length : Int) := by omega
    have h2 : (r.length : Int) ≤ 8 := by omega
    have HP := Lib.hid (show prL r = pgL [] r by simp only [prL, Bool.and_eq_true, decide_eq_true_eq]; rw [show decide (1 ≤ r.length) = true by simp; omega, show decide (r.length ≤ 8) = true by simp; omega]; rfl)
    have HA := Lib.hid h
    subst hv
    clear h0 h
    go_enter Tryz.func82, Tryz.ntmps82
    go_wp2
    go_loopw [15] (fun v wr => ∃ k : Nat, k ≤ r.length ∧ v = .int .i64 (k : Nat) ∧ Below w.heap.size w wr ∧ pgL (r.take k) (r.drop k) = prL r) (fun v _ => r.length - (intOf v).toNat)
    case atStart => exact ⟨0, by omega, rfl, Below.refl _ _, by rw [HP.out]; rfl⟩
    case round =>
      obtain ⟨k, hk, rfl, hb, hinv⟩ := hrel
      by_cases hlt : k < r.length
      · obtain ⟨a', c', hv, _, hcells⟩ := avAt_below HA.out hb
        injection hv with hv1 hv2 hv3
        subst hv1 hv3
        obtain ⟨g, o, rfl, hg, c1, c2⟩ := hcells k hlt
        rw [pg_step r k hlt] at hinv
        have hkl : (k : Int) < (r.length : Int) := by omega
        obtain ⟨T, hT⟩ : ∃ T, r[k].1 = T := ⟨_, rfl⟩
        obtain ⟨V, hV⟩ : ∃ V, r[k].2 = V := ⟨_, rfl⟩
        have hw := avOk_ways r[k]
        have htw : twL (r.take k) r[k] = (r.take k).any (fun q => lowL q.1 == lowL T) := by rw [twL, hT]
        rw [hT, hV] at hw
        rw [hT] at c1
        rw [hV] at c2
        have HT := Lib.hid (dtype_any ⟨T.toArray⟩)
        change Hid (∀ w, Calls Tryz.prog _ _ w (PureB (tyL T) w)) at HT
        obtain ⟨W, hW⟩ : ∃ W, wr.alloc (.cells #[.string ⟨T.toArray⟩, .string ⟨V.toArray⟩] 65) = W := ⟨_, rfl⟩
        have hbW : Below w.heap.size w W := by rw [← hW]; exact hb.alloc hb.size _
        have hd1 : W.cell? ⟨wr.heap.size, 0, none⟩ = some (.string ⟨T.toArray⟩) := by rw [← hW, World.cell?_alloc_mark wr _ _ (0, 0)]; rfl
        have hd2 : W.cell? ⟨wr.heap.size, 1, none⟩ = some (.string ⟨V.toArray⟩) := by rw [← hW, World.cell?_alloc_mark wr _ _ (0, 0)]; rfl
        have hz : wr.heap.size < W.heap.size := by rw [← hW]; simp
        rcases hw with ⟨hok, hw⟩ | ⟨hok, hw1, hw2, hw3⟩
        · rw [hok, Bool.false_and, Bool.false_and] at hinv
          have H := Lib.hid (And.intro hbW hinv.symm)
          clear hinv hb hcells hok hbW htw hT hV
          rcases hw with hw | ⟨hw, hV0⟩ | ⟨hw, hw2, hw3⟩
          · rw [hw] at HT
            go_wp2_with fail
            refine (HT.out _).mono ?_
            rintro e w2 ⟨rfl, hw2⟩
            obtain rfl := hw2.symm
            go_wp2
            go_ret
            exact boolPost_mk H.out.2 H.out.1
          · rw [hw] at HT
            have hem : V.isEmpty = true := by rw [hV0]; rfl
            clear hV0
            go_wp2_with fail
            refine (HT.out _).mono ?_
            rintro e w2 ⟨rfl, hw2⟩
            obtain rfl := hw2.symm
            go_wp2
            go_ret
            exact boolPost_mk H.out.2 H.out.1
          · rw [hw] at HT
            have hem : V.isEmpty = false := by cases V <;> simp_all
            have hgt : (256 : Int) < (V.length : Int) := by omega
            clear hw2 hw3
            go_wp2_with fail
            refine (HT.out _).mono ?_
            rintro e w2 ⟨rfl, hw2⟩
            obtain rfl := hw2.symm
            go_wp2
            go_ret
            exact boolPost_mk H.out.2 H.out.1
        · rw [hok, Bool.true_and] at hinv
          rw [hw1] at HT
          have hem : V.isEmpty = false := by cases V <;> simp_all
          have hgt : (V.length : Int) ≤ 256 := by omega
          have hk0 : (0 : Int) ≤ (k : Int) := by omega
          have hkc : (k : Int) ≤ (c : Int) := by omega
          obtain ⟨a', c', hv, hA2⟩ := avAt_take (avAt_below HA.out hbW) k hk
          injection hv with hv1 hv2 hv3
          subst hv1 hv3
          have HH := Lib.hid (fun w' (hb2 : Below W.heap.size W w') => dhas_any _ _ ⟨T.toArray⟩ w' (avAt_below hA2 hb2) (by simp; omega))
          change Hid (∀ w', Below W.heap.size W w' → Calls Tryz.prog _ _ w' (BoolPost ((r.take k).any (fun q => lowL q.1 == lowL T)) w')) at HH
          rw [← htw] at HH
          obtain ⟨q, hq⟩ : ∃ q, twL (r.take k) r[k] = q := ⟨_, rfl⟩
          rw [hq] at HH hinv
          have H := Lib.hid (And.intro hbW hinv)
          clear hinv hb hcells hok hbW htw hT hV hw1 hw2 hw3 hA2 hq
          go_wp2_with fail
          refine (HT.out _).mono ?_
          rintro e w2 ⟨rfl, hw2⟩
          obtain rfl := hw2.symm
          go_wp2
          go_region_held3 (fun w' => w'.cell? ⟨wr.heap.size, 0, none⟩ = some (.string ⟨T.toArray⟩)) (first | exact he1 | exact hd1 | go_keep)
            (first | (go_at_call 107; refine (HH.out _ ((Below.refl _ W).drew)).mono ?_; rintro en w3 ⟨rfl, hb3⟩; have he1 := (hb3.cell (p := ⟨wr.heap.size, 0, none⟩) hz).trans hd1))
          have hb4 : Below w.heap.size w w3 := H.out.1.trans ((Below.refl _ W).drew.trans hb3 |>.mono H.out.1.size)
          have H4 := Lib.hid hb4
          clear hb3 hb4 he1
          cases q
          · go_wp2
            refine ⟨⟨k + 1, by omega, by go_num, H4.out, ?_⟩, by simp [intOf]; omega⟩
            have := H.out.2
            simpa using this
          · go_wp2
            go_ret
            refine boolPost_mk ?_ H4.out
            have := H.out.2
            simpa using this.symm
      · obtain rfl : k = r.length := by omega
        rw [pg_end] at hinv
        have H := Lib.hid (And.intro hb hinv.symm)
        clear hb hinv
        go_wp2
        go_ret
        exact boolPost_mk H.out.2 H.out.1

/-! ### Check -/
def NumPost (n : Nat) (w : World) (en : Ending) (w' : World) : Prop := en = .returned (.int .i64 (n : Nat)) ∧ Below w.heap.size w w'
theorem numPost_mk {n m : Nat} {w w' : World} (h : n = m) (hb : Below w.heap.size w w') : NumPost n w (.returned (.int .i64 (m : Nat))) w' := by subst h; exact ⟨rfl, hb⟩
theorem ckD_long (d : List (List Av)) (h : 32 < d.length) : ckD d = 3 := by rw [ckD, if_pos h]
theorem ckD_bad (d : List (List Av)) (h : d.length ≤ 32) (k : Nat) (hk : k < d.length) (hp : prL d[k] = false) : ckD d = 5 := by
  have : d.all prL = false := by
    rw [List.all_eq_false]
    exact ⟨d[k], List.getElem_mem hk, by simp [hp]⟩
  rw [ckD, if_neg (by omega), this]; rfl
theorem ckD_good (d : List (List Av)) (h : d.length ≤ 32) (hp : d.all prL = true) : ckD d = 0 := by rw [ckD, if_neg (by omega), hp]; rfl
theorem all_take {α : Type} (p : α → Bool) (r : List α) (k : Nat) (h : k < r.length) (h1 : (r.take k).all p = true) (h2 : p r[k] = true) : (r.take (k + 1)).all p = true := by
  rw [List.take_succ_eq_append_getElem h, List.all_append, h1]; simp [h2]

set_option maxHeartbeats 1600000 in
set_option maxRecDepth 100000 in
theorem dcheck_any (v : Value) (d : List (List Av)) (w : World) (h : DnAt w v d) :
    Calls Tryz.prog 61 #[v] w (NumPost (ckD d) w) := by
  obtain ⟨a, c, hv, hcap, _⟩ := id h
  have HA := Lib.hid h
  subst hv
  clear h
  by_cases h0 : 32 < d.length
  · have H := Lib.hid (ckD_long d h0)
    have h1 : (32 : Int) < (d.length : Int) := by omega
    clear h0
    go_enter Tryz.func61, Tryz.ntmps61
    go_wp2
    go_ret
    exact numPost_mk H.out (Below.refl _ _)
  · have h1 : (d.length : Int) ≤ 32 := by omega
    have HB := Lib.hid (ckD_bad d (by omega))
    have HG := Lib.hid (ckD_good d (by omega))
    clear h0
    go_enter Tryz.func61, Tryz.ntmps61
    go_wp2
    go_loopw [10] (fun v wr => ∃ k : Nat, k ≤ d.length ∧ v = .int .i64 (k : Nat) ∧ Below w.heap.size w wr ∧ (d.take k).all prL = true) (fun v _ => d.length - (intOf v).toNat)
    case atStart => exact ⟨0, by omega, rfl, Below.refl _ _, rfl⟩
    case round =>
      obtain ⟨k, hk, rfl, hb, hall⟩ := hrel
      by_cases hlt : k < d.length
      · obtain ⟨a', c', hv, _, hcells⟩ := dnAt_below HA.out hb
        injection hv with hv1 hv2 hv3
        subst hv1 hv3
        obtain ⟨g, o, u, rfl, hg, c1, hav⟩ := hcells k hlt
        have hkl : (k : Int) < (d.length : Int) := by omega
        have HC := Lib.hid (dpart_any u d[k] wr hav)
        obtain ⟨ua, uc, hu, _, _⟩ := hav
        subst hu
        obtain ⟨q, hq⟩ : ∃ q, prL d[k] = q := ⟨_, rfl⟩
        cases q
        · rw [hq] at HC
          have H := Lib.hid (And.intro hb (HB.out k hlt hq))
          clear hb hall hcells hq
          go_wp2_with fail
          refine HC.out.mono ?_
          rintro e w2 ⟨rfl, hb2⟩
          go_wp2
          go_ret
          exact numPost_mk H.out.2 (H.out.1.trans (hb2.mono H.out.1.size))
        · rw [hq] at HC
          have H := Lib.hid (And.intro hb (all_take prL d k hlt hall hq))
          clear hb hall hcells hq
          go_wp2_with fail
          refine HC.out.mono ?_
          rintro e w2 ⟨rfl, hb2⟩
          go_wp2
          exact ⟨⟨k + 1, by omega, by go_num, H.out.1.trans (hb2.mono H.out.1.size), H.out.2⟩, by simp [intOf]; omega⟩
      · obtain rfl : k = d.length := by omega
        rw [List.take_length] at hall
        have H := Lib.hid (And.intro hb (HG.out hall))
        clear hb hall
        go_wp2
        go_ret
        exact numPost_mk H.out.2 H.out.1
end Go.Proofs.YtlopmppiihhnnaaGreatDoor
