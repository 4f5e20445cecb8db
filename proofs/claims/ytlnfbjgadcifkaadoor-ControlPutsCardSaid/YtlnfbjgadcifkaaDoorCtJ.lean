/- Whether a control may be: the code's Check and the document's. -/
import Derived.Test.YtlnfbjgadcifkaaDoorCtD
import Derived.Test.YtlnfbjgadcifkaaDoorLays
namespace Go.Proofs.YtlnfbjgadcifkaaDoor
set_option linter.unusedSimpArgs false
set_option linter.unusedVariables false
open Go Go.RowKit Go.Proofs.BerM Go.Proofs.BerK Go.Proofs.MemK Go.Proofs.NumM

/-- The bytes that an OID is made of. -/
def oidB : List UInt8 := [48, 49, 50, 51, 52, 53, 54, 55, 56, 57, 46]
def oidC (c : UInt8) : Bool := oidB.contains c
theorem oidC_nat : ∀ n : Fin 256, oidC (UInt8.ofNat n.val) = (decide (48 ≤ n.val ∧ n.val ≤ 57) || decide (n.val = 46)) := by decide +kernel
theorem oidC_is (c : UInt8) : oidC c = (decide (48 ≤ c.toNat ∧ c.toNat ≤ 57) || decide (c.toNat = 46)) := by
  have h := oidC_nat ⟨c.toNat, c.toNat_lt⟩
  have e : UInt8.ofNat c.toNat = c := by simp
  simp only [e] at h
  exact h
theorem dw_nil (p : UInt8 → Bool) : ∀ l : List UInt8, l.dropWhile p = [] → l.all p = true := by
  intro l
  induction l with
  | nil => intro _; rfl
  | cons a l ih =>
    intro h
    by_cases hp : p a = true
    · rw [List.dropWhile_cons_of_pos hp] at h
      rw [List.all_cons, hp, ih h]; rfl
    · rw [List.dropWhile_cons_of_neg hp] at h
      cases h
theorem dw_all (p : UInt8 → Bool) : ∀ l : List UInt8, l.all p = true → l.dropWhile p = [] := by
  intro l
  induction l with
  | nil => intro _; rfl
  | cons a l ih =>
    intro h
    rw [List.all_cons, Bool.and_eq_true] at h
    rw [List.dropWhile_cons_of_pos h.1]
    exact ih h.2
theorem dw_back (p : UInt8 → Bool) : ∀ l : List UInt8, (l.dropWhile p).all p = true → l.all p = true := by
  intro l
  induction l with
  | nil => intro _; rfl
  | cons a l ih =>
    intro h
    by_cases hp : p a = true
    · rw [List.dropWhile_cons_of_pos hp] at h
      rw [List.all_cons, hp, ih h]; rfl
    · rw [List.dropWhile_cons_of_neg hp] at h
      exact h
theorem trim_nil (l : List UInt8) : (Lib.trimS l oidB).isEmpty = l.all oidC := by
  have h1 : l.all oidC = true → Lib.trimS l oidB = [] := by
    intro h
    have h2 : l.reverse.all (oidB.contains ·) = true := by rw [List.all_reverse]; exact h
    unfold Lib.trimS Lib.trimLeftS Lib.trimRightS
    rw [dw_all _ _ h2]; rfl
  have h2 : Lib.trimS l oidB = [] → l.all oidC = true := by
    intro h
    have h3 := dw_nil _ _ h
    unfold Lib.trimRightS at h3
    rw [List.all_reverse] at h3
    have h4 := dw_back _ _ h3
    rw [List.all_reverse] at h4
    exact h4
  rw [Bool.eq_iff_iff, List.isEmpty_iff]
  exact ⟨h2, h1⟩
/-- Whether bytes are the OID of a control. -/
def oidL (s : List UInt8) : Bool := decide (1 ≤ s.length ∧ s.length ≤ 64) && s.all oidC
def ckC (o v : List UInt8) : Nat := if oidL o = false then 13 else if 1024 < v.length then 3 else 0
theorem Tryd.set18 : (Tryd.prog.info? (Tryd.trim18_ren.t 116)).map (fun i => (i.zero, i.size)) = some (some (.agg (Array.replicate 256 (.bool false))), 256) := by kernel_rfl
theorem ctrim_any (s : List UInt8) (w : World) (hs : s.length ≤ maxLen) : Calls Tryd.prog 45 #[.string ⟨s.toArray⟩, .string ⟨oidB.toArray⟩] w fun e w' => e = .returned (.string ⟨(Lib.trimS s oidB).toArray⟩) ∧ Below w.heap.size w w' :=
  Any.strings_Trim_laid Tryd.trim18 Tryd.set18 ⟨s.toArray⟩ ⟨oidB.toArray⟩ w hs (by decide) (ascii_of_all (by decide))
set_option maxHeartbeats 1600000 in
set_option maxRecDepth 100000 in
theorem coid_any (s : List UInt8) (w : World) (hs : s.length ≤ maxLen) : Calls Tryd.prog 27 #[.string ⟨s.toArray⟩] w fun en w' => en = .returned (.bool (oidL s)) ∧ Below w.heap.size w w' := by
  have HT := Lib.hid (fun w' => ctrim_any s w' hs)
  have hways : (s.isEmpty = true ∧ oidL s = false) ∨ (s.isEmpty = false ∧ ¬ (s.length : Int) ≤ 64 ∧ oidL s = false) ∨ (s.isEmpty = false ∧ (s.length : Int) ≤ 64 ∧ oidL s = s.all oidC) := by
    cases s with
    | nil => exact .inl ⟨rfl, rfl⟩
    | cons a l =>
      by_cases h : (a :: l).length ≤ 64
      · refine .inr (.inr ⟨rfl, by omega, ?_⟩)
        unfold oidL
        rw [decide_eq_true ⟨by simp, h⟩]; rfl
      · refine .inr (.inl ⟨rfl, by omega, ?_⟩)
        unfold oidL
        rw [decide_eq_false (by omega)]; rfl
  unfold maxLen at hs
  rcases hways with ⟨h1, hv⟩ | ⟨h1, h2, hv⟩ | ⟨h1, h2, hv⟩
  · rw [hv]
    clear hv
    go_enter Tryd.func27, Tryd.ntmps27
    go_wp2
    go_ret
    exact ⟨rfl, Below.refl _ _⟩
  · rw [hv]
    clear hv
    go_enter Tryd.func27, Tryd.ntmps27
    go_wp2
    go_ret
    exact ⟨rfl, Below.refl _ _⟩
  · rw [hv, ← trim_nil]
    obtain ⟨X, hX⟩ : ∃ X, Lib.trimS s oidB = X := ⟨_, rfl⟩
    rw [hX] at HT ⊢
    clear hv hX
    go_enter Tryd.func27, Tryd.ntmps27
    go_wp2_with fail
    refine (HT.out _).mono ?_
    rintro en w1 ⟨rfl, hb1⟩
    have H1 := Lib.hid hb1
    clear hb1
    go_wp2
    go_ret
    exact ⟨rfl, H1.out⟩
def CkcPost (n : Nat) (w : World) (en : Ending) (w' : World) : Prop := en = .returned (.int .i64 (n : Nat)) ∧ Below w.heap.size w w'
set_option maxHeartbeats 1600000 in
set_option maxRecDepth 100000 in
theorem ccheck_any (o v : List UInt8) (b : Bool) (w : World) (ho : o.length ≤ maxLen) (hv : v.length ≤ maxLen) : Calls Tryd.prog 11 #[.agg #[.string ⟨o.toArray⟩, .bool b, .string ⟨v.toArray⟩]] w (CkcPost (ckC o v) w) := by
  have HO := Lib.hid (fun w' => coid_any o w' ho)
  obtain ⟨W, hW⟩ : ∃ W, w.alloc (.cells #[.string ⟨o.toArray⟩, .bool b, .string ⟨v.toArray⟩] 27) = W := ⟨_, rfl⟩
  have hb0 : Below w.heap.size w W := by rw [← hW]; exact (Below.refl _ w).alloc (Nat.le_refl _) _
  have hg : W.heap[w.heap.size]? = some (.cells #[.string ⟨o.toArray⟩, .bool b, .string ⟨v.toArray⟩] 27 (0, 0)) := by rw [← hW]; exact heap_alloc_new w _
  have p0 := obj_cell hg 0 _ rfl
  have p2 := obj_cell hg 2 _ rfl
  have hz : w.heap.size < W.heap.size := obj_lt hg
  have HB0 := Lib.hid hb0
  clear hb0 hg
  unfold maxLen at ho hv
  have hways : (oidL o = false ∧ ckC o v = 13) ∨ (oidL o = true ∧ (1024 : Int) < (v.length : Int) ∧ ckC o v = 3) ∨ (oidL o = true ∧ ¬ (1024 : Int) < (v.length : Int) ∧ ckC o v = 0) := by
    unfold ckC
    cases oidL o
    · exact .inl ⟨rfl, rfl⟩
    · by_cases h : 1024 < v.length
      · exact .inr (.inl ⟨rfl, by omega, by simp [h]⟩)
      · exact .inr (.inr ⟨rfl, by omega, by simp [h]⟩)
  rcases hways with ⟨q, hk⟩ | ⟨q, q2, hk⟩ | ⟨q, q2, hk⟩
  all_goals
    rw [hk]
    rw [q] at HO
    clear hk q
    go_enter Tryd.func11, Tryd.ntmps11
    go_wp2_with fail
    refine (HO.out _).mono ?_
    rintro en w1 ⟨rfl, hb1⟩
    have p2 := (hb1.cell (p := ⟨w.heap.size, 2, none⟩) hz).trans p2
    have H1 := Lib.hid (HB0.out.trans (hb1.mono HB0.out.size))
    clear hb1
    go_wp2
    go_ret
    exact ⟨rfl, H1.out⟩

set_option maxHeartbeats 3200000 in
set_option maxRecDepth 100000 in
theorem rccheck_any (o v : List UInt8) (b : Bool) (w : World) (ho : o.length ≤ maxLen) (hv : v.length ≤ maxLen) : Calls Tryd.prog 12 #[.agg #[.string ⟨o.toArray⟩, .bool b, .string ⟨v.toArray⟩]] w (CkcPost (ckC o v) w) := by
  obtain ⟨W, hW⟩ : ∃ W, w.alloc (.cells #[.string ⟨o.toArray⟩, .bool b, .string ⟨v.toArray⟩] 27) = W := ⟨_, rfl⟩
  have hb0 : Below w.heap.size w W := by rw [← hW]; exact (Below.refl _ w).alloc (Nat.le_refl _) _
  have hg : W.heap[w.heap.size]? = some (.cells #[.string ⟨o.toArray⟩, .bool b, .string ⟨v.toArray⟩] 27 (0, 0)) := by rw [← hW]; exact heap_alloc_new w _
  have p0 := obj_cell hg 0 _ rfl
  have p2 := obj_cell hg 2 _ rfl
  have hz : w.heap.size < W.heap.size := obj_lt hg
  have HB0 := Lib.hid hb0
  clear hb0 hg
  unfold maxLen at ho hv
  have HV := Lib.hid (show ckC o v = if oidL o = false then 13 else if 1024 < v.length then 3 else 0 from rfl)
  have hways : ∃ q, decide (1 ≤ o.length ∧ o.length ≤ 64) = q ∧ ((q = false ∧ ¬ (1 : Int) ≤ (o.length : Int)) ∨ (q = false ∧ (1 : Int) ≤ (o.length : Int) ∧ ¬ (o.length : Int) ≤ 64) ∨ (q = true ∧ (1 : Int) ≤ (o.length : Int) ∧ (o.length : Int) ≤ 64)) := by
    by_cases h1 : 1 ≤ o.length
    · by_cases h2 : o.length ≤ 64
      · exact ⟨true, by simp [h1, h2], .inr (.inr ⟨rfl, by omega, by omega⟩)⟩
      · exact ⟨false, by simp [h2], .inr (.inl ⟨rfl, by omega, by omega⟩)⟩
    · exact ⟨false, by simp [h1], .inl ⟨rfl, by omega⟩⟩
  obtain ⟨q, hq, hways⟩ := hways
  have HL := Lib.hid (show oidL o = (q && o.all oidC) by unfold oidL; rw [hq])
  clear hq
  rcases hways with ⟨rfl, r1⟩ | ⟨rfl, r1, r2⟩ | ⟨rfl, r1, r2⟩
  · go_enter Tryd.func12, Tryd.ntmps12
    go_wp2
    go_loopw [3, 4] (fun v3 v4 wr => ∃ i : Nat, ∃ r : Bool, v3 = .bool r ∧ v4 = .int .i64 i ∧ i ≤ o.length ∧ r = (false && (o.take i).all oidC) ∧ wr = W) (fun _ v4 _ => o.length - (intOf v4).toNat)
    case atStart => exact ⟨0, false, rfl, rfl, Nat.zero_le _, by simp, rfl⟩
    case round =>
      obtain ⟨i, r, rfl, rfl, hi, hr, hww⟩ := hrel
      obtain rfl := hww.symm
      by_cases hlt : i < o.length
      · exact absurd hlt (by omega)
      · obtain rfl : i = o.length := by omega
        rw [List.take_length] at hr
        have hf : (r = false ∧ ckC o v = 13) ∨ (r = true ∧ (1024 : Int) < (v.length : Int) ∧ ckC o v = 3) ∨ (r = true ∧ ¬ (1024 : Int) < (v.length : Int) ∧ ckC o v = 0) := by
          rw [HV.out, HL.out, ← hr]
          cases r
          · exact .inl ⟨rfl, rfl⟩
          · by_cases h : 1024 < v.length
            · exact .inr (.inl ⟨rfl, by omega, by simp [h]⟩)
            · exact .inr (.inr ⟨rfl, by omega, by simp [h]⟩)
        clear hr
        rcases hf with ⟨rfl, hk⟩ | ⟨rfl, k2, hk⟩ | ⟨rfl, k2, hk⟩
        all_goals
          have HK := Lib.hid hk
          clear hk
          go_wp2
          go_ret
          exact ⟨by rw [HK.out]; rfl, HB0.out⟩
  · go_enter Tryd.func12, Tryd.ntmps12
    go_wp2
    go_loopw [3, 4] (fun v3 v4 wr => ∃ i : Nat, ∃ r : Bool, v3 = .bool r ∧ v4 = .int .i64 i ∧ i ≤ o.length ∧ r = (false && (o.take i).all oidC) ∧ wr = W) (fun _ v4 _ => o.length - (intOf v4).toNat)
    case atStart => exact ⟨0, false, rfl, rfl, Nat.zero_le _, by simp, rfl⟩
    case round =>
      obtain ⟨i, r, rfl, rfl, hi, hr, hww⟩ := hrel
      obtain rfl := hww.symm
      by_cases hlt : i < o.length
      · have hi0 : (0 : Int) ≤ i := by omega
        have hi1 : (i : Int) < (o.length : Int) := by omega
        have hst : (false && (o.take (i + 1)).all oidC) = (r && oidC o[i]) := by
          rw [List.take_succ_eq_append_getElem hlt, List.all_append, hr]
          simp [Bool.and_assoc]
        have HN := Lib.hid hst
        obtain ⟨x, hx⟩ : ∃ x, o[i] = x := ⟨_, rfl⟩
        have hxa : (⟨o.toArray⟩ : ByteArray)[i]'(by show i < o.length; exact hlt) = x := by rw [← hx]; rfl
        rw [hx] at HN
        have hxb := x.toNat_lt
        have hc : (r = false ∧ (r && oidC x) = false) ∨ (r = true ∧ (48 : Int) ≤ (x.toNat : Int) ∧ (x.toNat : Int) ≤ 57 ∧ (r && oidC x) = true) ∨ (r = true ∧ (48 : Int) ≤ (x.toNat : Int) ∧ ¬ (x.toNat : Int) ≤ 57 ∧ ((x.toNat : Int) == 46) = false ∧ (r && oidC x) = false) ∨ (r = true ∧ ¬ (48 : Int) ≤ (x.toNat : Int) ∧ ((x.toNat : Int) == 46) = true ∧ (r && oidC x) = true) ∨ (r = true ∧ ¬ (48 : Int) ≤ (x.toNat : Int) ∧ ((x.toNat : Int) == 46) = false ∧ (r && oidC x) = false) := by
          cases r
          · exact .inl ⟨rfl, rfl⟩
          · refine .inr ?_
            simp only [Bool.true_and, true_and, oidC_is, beq_iff_eq, beq_eq_false_iff_ne, ne_eq, Bool.or_eq_true, Bool.or_eq_false_iff, decide_eq_true_eq, decide_eq_false_iff_not]
            omega
        clear hst hx hr
        rcases hc with ⟨rfl, k1⟩ | ⟨rfl, k2, k3, k1⟩ | ⟨rfl, k2, k3, k4, k1⟩ | ⟨rfl, k2, k3, k1⟩ | ⟨rfl, k2, k3, k1⟩
        all_goals
          have HK := Lib.hid (HN.out.trans k1)
          clear k1 HN
          go_wp2
          go_roundw
          case rel => exact ⟨i + 1, _, rfl, by go_num, by omega, HK.out.symm, by first | rfl | trivial⟩
          case measure => simp [intOf]; omega
      · obtain rfl : i = o.length := by omega
        rw [List.take_length] at hr
        have hf : (r = false ∧ ckC o v = 13) ∨ (r = true ∧ (1024 : Int) < (v.length : Int) ∧ ckC o v = 3) ∨ (r = true ∧ ¬ (1024 : Int) < (v.length : Int) ∧ ckC o v = 0) := by
          rw [HV.out, HL.out, ← hr]
          cases r
          · exact .inl ⟨rfl, rfl⟩
          · by_cases h : 1024 < v.length
            · exact .inr (.inl ⟨rfl, by omega, by simp [h]⟩)
            · exact .inr (.inr ⟨rfl, by omega, by simp [h]⟩)
        clear hr
        rcases hf with ⟨rfl, hk⟩ | ⟨rfl, k2, hk⟩ | ⟨rfl, k2, hk⟩
        all_goals
          have HK := Lib.hid hk
          clear hk
          go_wp2
          go_ret
          exact ⟨by rw [HK.out]; rfl, HB0.out⟩
  · go_enter Tryd.func12, Tryd.ntmps12
    go_wp2
    go_loopw [3, 4] (fun v3 v4 wr => ∃ i : Nat, ∃ r : Bool, v3 = .bool r ∧ v4 = .int .i64 i ∧ i ≤ o.length ∧ r = (true && (o.take i).all oidC) ∧ wr = W) (fun _ v4 _ => o.length - (intOf v4).toNat)
    case atStart => exact ⟨0, true, rfl, rfl, Nat.zero_le _, by simp, rfl⟩
    case round =>
      obtain ⟨i, r, rfl, rfl, hi, hr, hww⟩ := hrel
      obtain rfl := hww.symm
      by_cases hlt : i < o.length
      · have hi0 : (0 : Int) ≤ i := by omega
        have hi1 : (i : Int) < (o.length : Int) := by omega
        have hst : (true && (o.take (i + 1)).all oidC) = (r && oidC o[i]) := by
          rw [List.take_succ_eq_append_getElem hlt, List.all_append, hr]
          simp [Bool.and_assoc]
        have HN := Lib.hid hst
        obtain ⟨x, hx⟩ : ∃ x, o[i] = x := ⟨_, rfl⟩
        have hxa : (⟨o.toArray⟩ : ByteArray)[i]'(by show i < o.length; exact hlt) = x := by rw [← hx]; rfl
        rw [hx] at HN
        have hxb := x.toNat_lt
        have hc : (r = false ∧ (r && oidC x) = false) ∨ (r = true ∧ (48 : Int) ≤ (x.toNat : Int) ∧ (x.toNat : Int) ≤ 57 ∧ (r && oidC x) = true) ∨ (r = true ∧ (48 : Int) ≤ (x.toNat : Int) ∧ ¬ (x.toNat : Int) ≤ 57 ∧ ((x.toNat : Int) == 46) = false ∧ (r && oidC x) = false) ∨ (r = true ∧ ¬ (48 : Int) ≤ (x.toNat : Int) ∧ ((x.toNat : Int) == 46) = true ∧ (r && oidC x) = true) ∨ (r = true ∧ ¬ (48 : Int) ≤ (x.toNat : Int) ∧ ((x.toNat : Int) == 46) = false ∧ (r && oidC x) = false) := by
          cases r
          · exact .inl ⟨rfl, rfl⟩
          · refine .inr ?_
            simp only [Bool.true_and, true_and, oidC_is, beq_iff_eq, beq_eq_false_iff_ne, ne_eq, Bool.or_eq_true, Bool.or_eq_false_iff, decide_eq_true_eq, decide_eq_false_iff_not]
            omega
        clear hst hx hr
        rcases hc with ⟨rfl, k1⟩ | ⟨rfl, k2, k3, k1⟩ | ⟨rfl, k2, k3, k4, k1⟩ | ⟨rfl, k2, k3, k1⟩ | ⟨rfl, k2, k3, k1⟩
        all_goals
          have HK := Lib.hid (HN.out.trans k1)
          clear k1 HN
          go_wp2
          go_roundw
          case rel => exact ⟨i + 1, _, rfl, by go_num, by omega, HK.out.symm, by first | rfl | trivial⟩
          case measure => simp [intOf]; omega
      · obtain rfl : i = o.length := by omega
        rw [List.take_length] at hr
        have hf : (r = false ∧ ckC o v = 13) ∨ (r = true ∧ (1024 : Int) < (v.length : Int) ∧ ckC o v = 3) ∨ (r = true ∧ ¬ (1024 : Int) < (v.length : Int) ∧ ckC o v = 0) := by
          rw [HV.out, HL.out, ← hr]
          cases r
          · exact .inl ⟨rfl, rfl⟩
          · by_cases h : 1024 < v.length
            · exact .inr (.inl ⟨rfl, by omega, by simp [h]⟩)
            · exact .inr (.inr ⟨rfl, by omega, by simp [h]⟩)
        clear hr
        rcases hf with ⟨rfl, hk⟩ | ⟨rfl, k2, hk⟩ | ⟨rfl, k2, hk⟩
        all_goals
          have HK := Lib.hid hk
          clear hk
          go_wp2
          go_ret
          exact ⟨by rw [HK.out]; rfl, HB0.out⟩
end Go.Proofs.YtlnfbjgadcifkaaDoor
