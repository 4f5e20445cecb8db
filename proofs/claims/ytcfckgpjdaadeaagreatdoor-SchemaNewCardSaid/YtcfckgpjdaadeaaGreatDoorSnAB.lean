/- Whether names and rules may be: the code's isLetter, isName, isRule, and the predicates of the tables. A table of names in memory: the place of a name, and a name put behind those that are there. -/
import Derived.Test.YtcfckgpjdaadeaaGreatDoorPlnA
import Derived.Test.YtcfckgpjdaadeaaGreatDoorDqA
import Derived.Test.YtcfckgpjdaadeaaGreatDoorFoldCE
import Derived.Test.YtcfckgpjdaadeaaGreatDoorChecked
import Derived.Test.YtcfckgpjdaadeaaGreatDoorGenB
import Derived.Maps.OwnOps
import Derived.WalkSpells
import Derived.StillTailTactics
import Derived.Maps.OwnSet
import Derived.Maps.Views
import Derived.StringKeys
namespace Go.Proofs.YtcfckgpjdaadeaaGreatDoor
set_option linter.unusedSimpArgs false
set_option linter.unusedVariables false
open Go Go.RowKit Go.Proofs.BerK Go.Proofs.MemK Go.Proofs.UtfK

set_option maxHeartbeats 400000 in
theorem snlet_any (c : Nat) (w : World) : Calls Tryz.prog 118 #[.int .u8 (c : Nat)] w (PureB (letN c) w) := by
  go_enter Tryz.func118, Tryz.ntmps118
  go_wp2
  all_goals (go_ret; refine pureB_mk ?_; rw [Bool.eq_iff_iff]; simp only [letN, Bool.or_eq_true, Bool.and_eq_true, decide_eq_true_eq, beq_iff_eq, Bool.false_eq_true, iff_false, iff_true] <;> omega)
set_option maxHeartbeats 400000 in
theorem snrule_any (r : Int) (w : World) : Calls Tryz.prog 88 #[.int .i64 r] w (PureB (okRule r) w) := by
  go_enter Tryz.func88, Tryz.ntmps88
  go_wp2
  all_goals (go_ret; refine pureB_mk ?_; rw [Bool.eq_iff_iff]; simp only [okRule, Bool.or_eq_true, Bool.and_eq_true, decide_eq_true_eq, beq_iff_eq, Bool.false_eq_true, iff_false, iff_true] <;> omega)
set_option maxHeartbeats 3200000 in
set_option maxRecDepth 100000 in
theorem snname_any (s : ByteArray) (w : World) : Calls Tryz.prog 86 #[.string s] w (PureB (tyL s.data.toList) w) := by
  by_cases h0 : s.size = 0
  · have hem := str_e s h0
    have H := Lib.hid (tyL_nil s h0)
    clear h0
    go_enter Tryz.func86, Tryz.ntmps86
    go_wp2
    go_ret
    exact pureB_mk H.out
  have hem := str_ne s (by omega)
  by_cases h64 : 64 < s.size
  · have H := Lib.hid (tyL_long s h64)
    have hq : (64 : Int) < (s.size : Int) := by omega
    clear h0 h64
    go_enter Tryz.func86, Tryz.ntmps86
    go_wp2
    go_ret
    exact pureB_mk H.out
  have hq : (s.size : Int) ≤ 64 := by omega
  have hq1 : (0 : Int) < (s.size : Int) := by omega
  have hp : 0 < s.size := by omega
  by_cases hl : letN s[0].toNat = true
  · have HC0 := Lib.hid (snlet_any s[0].toNat)
    rw [hl] at HC0
    have HB := Lib.hid (tyL_bad s)
    have HK := Lib.hid (tyL_ok s hp (by omega) hl)
    clear h0 h64 hl
    go_enter Tryz.func86, Tryz.ntmps86
    go_wp2_with fail
    refine (HC0.out _).mono ?_
    rintro e w1 ⟨rfl, hw⟩
    obtain rfl := hw.symm
    go_wp2
    go_loop [20] (fun v => ∃ k : Nat, k ≤ s.size ∧ v = .int .i64 (k : Nat) ∧ (s.data.toList.take k).all (fun c => tcN c.toNat) = true) (fun v => s.size - (intOf v).toNat)
    case atStart => exact ⟨0, by omega, rfl, rfl⟩
    case round =>
      obtain ⟨k, hk, rfl, hall⟩ := hrel
      by_cases hlt : k < s.size
      · have hb : s[k].toNat < 256 := s[k].toNat_lt
        have hkl : (k : Int) < (s.size : Int) := by omega
        have HC := Lib.hid (snlet_any s[k].toNat)
        by_cases hd : tcN s[k].toNat = true
        · have H := Lib.hid (all_step s k hlt _ hall hd)
          by_cases hlk : letN s[k].toNat = true
          · rw [hlk] at HC
            clear hall hd hlk
            go_wp2_with fail
            refine (HC.out _).mono ?_
            rintro e w1 ⟨rfl, hw⟩
            obtain rfl := hw.symm
            go_wp2
            exact ⟨⟨k + 1, by omega, by go_num, H.out⟩, by simp [intOf]; omega⟩
          · have hlf : letN s[k].toNat = false := by simpa using hlk
            rw [hlf] at HC
            obtain ⟨c, hc⟩ : ∃ c, s[k].toNat = c := ⟨_, rfl⟩
            have hw := tcN_ways c (hc ▸ hlf) (hc ▸ hd)
            have hw' : ((48 : Int) ≤ (c : Int) ∧ (c : Int) ≤ 57) ∨ ((c : Int) < 48 ∧ ((c : Int) != 45) = false) := by simp; omega
            clear hall hd hlk hlf hw
            rw [hc] at HC hb
            rcases hw' with ⟨g1, g2⟩ | ⟨g1, g2⟩
            · go_wp2_with fail
              refine (HC.out _).mono ?_
              rintro e w1 ⟨rfl, hw⟩
              obtain rfl := hw.symm
              go_wp2
              exact ⟨⟨k + 1, by omega, by go_num, H.out⟩, by simp [intOf]; omega⟩
            · go_wp2_with fail
              refine (HC.out _).mono ?_
              rintro e w1 ⟨rfl, hw⟩
              obtain rfl := hw.symm
              go_wp2
              exact ⟨⟨k + 1, by omega, by go_num, H.out⟩, by simp [intOf]; omega⟩
        · have hdf : tcN s[k].toNat = false := by simpa using hd
          have H := Lib.hid (HB.out k hlt hdf)
          have hlf : letN s[k].toNat = false := by
            cases hq : letN s[k].toNat
            · rfl
            · rw [tcN_let _ hq] at hdf; cases hdf
          rw [hlf] at HC
          obtain ⟨c, hc⟩ : ∃ c, s[k].toNat = c := ⟨_, rfl⟩
          have hw := tcN_not c (hc ▸ hlf) (hc ▸ hdf)
          have hw' : ((c : Int) < 48 ∨ (48 : Int) ≤ (c : Int) ∧ (57 : Int) < (c : Int)) := by omega
          have hw2 : ((c : Int) != 45) = true := by simp; omega
          clear hall hd hlf hw hdf
          rw [hc] at HC hb
          rcases hw' with g1 | ⟨g1, g2⟩
          all_goals
            go_wp2_with fail
            refine (HC.out _).mono ?_
            rintro e w1 ⟨rfl, hw⟩
            obtain rfl := hw.symm
            go_wp2
            go_ret
            exact pureB_mk H.out
      · obtain rfl : k = s.size := by omega
        have H := Lib.hid (HK.out hall)
        clear hall
        go_wp2
        go_ret
        exact pureB_mk H.out
  · have hlf : letN s[0].toNat = false := by simpa using hl
    have HC0 := Lib.hid (snlet_any s[0].toNat)
    rw [hlf] at HC0
    have H := Lib.hid (tyL_head s hp hlf)
    clear h0 h64 hl hlf
    go_enter Tryz.func86, Tryz.ntmps86
    go_wp2_with fail
    refine (HC0.out _).mono ?_
    rintro e w1 ⟨rfl, hw⟩
    obtain rfl := hw.symm
    go_wp2
    go_ret
    exact pureB_mk H.out

/-! ### the predicates -/
def BB (b : Bool) (w : World) (en : Ending) (w' : World) : Prop := en = .returned (.bool b) ∧ Below w.heap.size w w'
theorem bB_mk {a b : Bool} {w w' : World} (h : b = a) (hb : Below w.heap.size w w') : BB b w (.returned (.bool a)) w' := by subst h; exact ⟨rfl, hb⟩
set_option maxHeartbeats 400000 in
theorem snp1_any (nm : ByteArray) (r : Int) (sg : Bool) (w : World) : Calls Tryz.prog 85 #[.agg #[.string nm, .int .i64 r, .bool sg]] w (BB (!tyL nm.data.toList) w) := by
  have HN := Lib.hid (snname_any nm)
  obtain ⟨b, hb⟩ : ∃ b, tyL nm.data.toList = b := ⟨_, rfl⟩
  rw [hb] at HN ⊢
  clear hb
  go_enter Tryz.func85, Tryz.ntmps85
  go_wp2_with fail
  refine (HN.out _).mono ?_
  rintro e w1 ⟨rfl, hw⟩
  obtain rfl := hw.symm
  go_wp2
  go_ret
  exact bB_mk rfl ((Below.refl _ _).alloc (Nat.le_refl _) _)
set_option maxHeartbeats 400000 in
theorem snp2_any (nm : ByteArray) (r : Int) (sg : Bool) (w : World) : Calls Tryz.prog 87 #[.agg #[.string nm, .int .i64 r, .bool sg]] w (BB (!okRule r) w) := by
  have HN := Lib.hid (snrule_any r)
  obtain ⟨b, hb⟩ : ∃ b, okRule r = b := ⟨_, rfl⟩
  rw [hb] at HN ⊢
  clear hb
  go_enter Tryz.func87, Tryz.ntmps87
  go_wp2_with fail
  refine (HN.out _).mono ?_
  rintro e w1 ⟨rfl, hw⟩
  obtain rfl := hw.symm
  go_wp2
  go_ret
  exact bB_mk rfl ((Below.refl _ _).alloc (Nat.le_refl _) _)
set_option maxHeartbeats 400000 in
theorem snp3_any (nm : ByteArray) (a b : Option Addr) (n c n' c' : Nat) (w : World) : Calls Tryz.prog 90 #[.agg #[.string nm, .slice a n c, .slice b n' c']] w (BB (!tyL nm.data.toList) w) := by
  have HN := Lib.hid (snname_any nm)
  obtain ⟨b, hb⟩ : ∃ b, tyL nm.data.toList = b := ⟨_, rfl⟩
  rw [hb] at HN ⊢
  clear hb
  go_enter Tryz.func90, Tryz.ntmps90
  go_wp2_with fail
  refine (HN.out _).mono ?_
  rintro e w1 ⟨rfl, hw⟩
  obtain rfl := hw.symm
  go_wp2
  go_ret
  exact bB_mk rfl ((Below.refl _ _).alloc (Nat.le_refl _) _)
set_option maxHeartbeats 400000 in
theorem snp4_any (nm : ByteArray) (a : Option Addr) (n c : Nat) (w : World) : Calls Tryz.prog 44 #[.agg #[.string nm, .slice a n c]] w (BB (n == 0) w) := by
  cases n with
  | zero =>
    go_enter Tryz.func44, Tryz.ntmps44
    go_wp2
    go_ret
    exact bB_mk rfl ((Below.refl _ _).alloc (Nat.le_refl _) _)
  | succ n =>
    have h : (((n + 1 : Nat) : Int) == 0) = false := by rw [beq_eq_false_iff_ne]; omega
    go_enter Tryz.func44, Tryz.ntmps44
    go_wp2
    go_ret
    exact bB_mk (by simp; try omega) ((Below.refl _ _).alloc (Nat.le_refl _) _)
end Go.Proofs.YtcfckgpjdaadeaaGreatDoor
namespace Go.Proofs.YtcfckgpjdaadeaaGreatDoor
set_option linter.unusedSimpArgs false
set_option linter.unusedVariables false
open Go Go.RowKit Go.Proofs.BerK Go.Proofs.MemK Go.Maps Go.WideMaps

theorem snlaw : Keyed Tryz.prog 9 := string_keyed Tryz.underlying9
theorem snzero (w : World) : (zeroValue 3).run Tryz.prog w = .ok (.int .i64 0) w := by kernel_rfl
theorem snkey (s : List UInt8) (h : s.length ≤ 140737488355328) : keyOf Tryz.prog 9 (.string ⟨s.toArray⟩) = some (.string s) :=
  keyOf_string_mk Tryz.underlying9 (s := ⟨s.toArray⟩) (by show s.length ≤ maxLen; unfold maxLen; omega)
theorem snIsKey {s : List UInt8} : WideAt.IsKeyLit (.string s) := by simp [WideAt.IsKeyLit]
/-- A datum is the map of names to their places. -/
def NmIs (D : DataW Unit) (N : List (List UInt8)) : Prop :=
  (∀ s : List UInt8, Maps.has D (.string s) = (ixL N s).isSome) ∧ (∀ s : List UInt8, D.atKey (.string s) (.lit (.int .i64 0)) = .lit (.int .i64 (((ixL N s).getD 0 : Nat) : Int))) ∧ Maps.size D = N.length
/-- The map of a table of names. -/
def NmAt (w : World) (mv : Value) (N : List (List UInt8)) : Prop :=
  (mv = .map none ∧ N = []) ∨ ∃ b D, mv = .map (some b) ∧ w.ownsMap Tryz.prog 9 (plainElem (H := Unit) Tryz.prog 3) b N.length D ∧ NmIs D N
theorem nmAt_nil (w : World) : NmAt w (.map none) [] := .inl ⟨rfl, rfl⟩
theorem ownsMap_chg {S : Nat → Prop} {w w' : World} {b n : Nat} {D : DataW Unit} (h : w.ownsMap Tryz.prog 9 (plainElem Tryz.prog 3) b n D) (hc : Chg S w w') (hs : ¬ S b) : w'.ownsMap Tryz.prog 9 (plainElem Tryz.prog 3) b n D := by
  have hlt := h.lt
  obtain ⟨es, clock, hb, F, hs', hD⟩ := h
  exact ⟨es, clock, (hc.block b hlt hs).trans hb, F, hs', hD⟩
theorem nmAt_chg {S : Nat → Prop} {w w' : World} {mv : Value} {N : List (List UInt8)} (h : NmAt w mv N) (hc : Chg S w w') (hs : ∀ b, mv = .map (some b) → ¬ S b) : NmAt w' mv N := by
  rcases h with h | ⟨b, D, rfl, h, hD⟩
  · exact .inl h
  · exact .inr ⟨b, D, rfl, ownsMap_chg h hc (hs b rfl), hD⟩
theorem nmAt_below {w w' : World} {mv : Value} {N : List (List UInt8)} (h : NmAt w mv N) (hb : Below w.heap.size w w') : NmAt w' mv N :=
  nmAt_chg h (Chg.ofBelow (S := fun _ => False) hb) (fun _ _ h => h)
theorem nmAt_lt {w : World} {b : Nat} {N : List (List UInt8)} (h : NmAt w (.map (some b)) N) : b < w.heap.size := by
  rcases h with ⟨h, _⟩ | ⟨b', D, h, hm, _⟩
  · cases h
  · injection h with h; injection h with h; subst h; exact hm.lt
/-- The block of a map is no row. -/
theorem nmAt_ne {w : World} {b g : Nat} {N : List (List UInt8)} {cs : Array Value} {t : TypeId} {m : Nat × Nat} (h : NmAt w (.map (some b)) N) (hg : w.heap[g]? = some (.cells cs t m)) : b ≠ g := by
  rcases h with ⟨h, _⟩ | ⟨b', D, h, hm, _⟩
  · cases h
  · injection h with h; injection h with h; subst h
    obtain ⟨es, clock, hb, _⟩ := hm
    rintro rfl
    rw [hb] at hg; cases hg
theorem lit_int_inj {a b : Int} (h : (DataW.lit (.int .i64 a) : DataW Unit) = .lit (.int .i64 b)) : a = b := by cases h; rfl
/-- What the place of a name is told as. -/
def plV (o : Option Nat) : Value := match o with
  | none => .tuple #[.int .i64 0, .bool false]
  | some i => .tuple #[.int .i64 (i : Nat), .bool true]
def PlPost (o : Option Nat) (w : World) (en : Ending) (w' : World) : Prop := en = .returned (plV o) ∧ w = w'
theorem nm_look {w : World} {mv : Value} {N : List (List UInt8)} (h : NmAt w mv N) (s : List UInt8) (hs : s.length ≤ 140737488355328) :
    (Instr.lookup 69 mv (.string ⟨s.toArray⟩) true).run Tryz.prog w = .ok (plV (ixL N s)) w := by
  rcases h with ⟨rfl, rfl⟩ | ⟨b, D, rfl, h, h1, h2, _⟩
  · exact Maps.look_nil true snlaw Tryz.underlying69 (snzero w) (snkey s hs)
  · obtain ⟨v, ps, hrun, hv⟩ := h.look_ok snlaw Tryz.underlying69 (snzero w) (plainElem_int Tryz.underlying3 (by decide)) (snkey s hs)
    rw [hrun]
    obtain ⟨c, rfl, hc, _⟩ := plainElem_int_inv Tryz.underlying3 hv
    have e : c = (((ixL N s).getD 0 : Nat) : Int) := by
      have e1 := congrArg Prod.fst hc
      have e2 := (h2 s).symm.trans e1
      exact (lit_int_inj e2).symm
    rw [e, h1]
    cases hq : ixL N s with
    | none => rfl
    | some i => rfl
set_option maxHeartbeats 1000000 in
set_option maxRecDepth 100000 in
theorem place_any (g o : Nat) (mv : Value) (N : List (List UInt8)) (s : List UInt8) (w : World) (hc : w.cell? ⟨g, o, none⟩ = some mv) (h : NmAt w mv N) (hs : s.length ≤ 140737488355328) :
    Calls Tryz.prog 37 #[.pointer (some ⟨g, o, none⟩), .string ⟨s.toArray⟩] w (PlPost (ixL N s) w) := by
  have hrun := nm_look h s hs
  cases hq : ixL N s with
  | none =>
    rw [hq] at hrun
    unfold plV at hrun
    clear h hq
    go_enter Tryz.func37, Tryz.ntmps37
    go_wp2
    go_ret2
    exact ⟨rfl, rfl⟩
  | some i =>
    rw [hq] at hrun
    unfold plV at hrun
    clear h hq
    go_enter Tryz.func37, Tryz.ntmps37
    go_wp2
    go_ret2
    exact ⟨rfl, rfl⟩
/-! ### a name more -/
theorem nmIs_put {D : DataW Unit} {N : List (List UInt8)} {s : List UInt8} (hT : Tidy D) (h : NmIs D N) (hn : ixL N s = none) : NmIs (D.put (.string s) (.lit (.int .i64 (N.length : Nat)))) (N ++ [s]) := by
  obtain ⟨h1, h2, h3⟩ := h
  have hh : Maps.has D (.string s) = false := by rw [h1, hn]; rfl
  refine ⟨fun k => ?_, fun k => ?_, ?_⟩
  · rw [ix_snoc]
    by_cases e : k = s
    · subst e
      rw [has_put_same hT.isMap snIsKey, hn]
      simp
    · have e2 : (s == k) = false := by simpa using fun h => e h.symm
      rw [has_put_other (fun q => e (by injection q)), h1, e2]
      simp
  · rw [ix_snoc]
    by_cases e : k = s
    · subst e
      rw [atKey_put_same hT.isMap snIsKey, hn]
      simp
    · have e2 : (s == k) = false := by simpa using fun h => e h.symm
      rw [atKey_put_other (fun q => e (by injection q)), h2, e2]
      simp
  · rw [size_put hT, hh, h3]; simp
/-- What putting a name behind those that are there leaves. -/
def AddPost (cs : Array Value) (t : TypeId) (g o : Nat) (mv : Value) (N : List (List UInt8)) (s : List UInt8) (w : World) (en : Ending) (w' : World) : Prop :=
  (∀ i, ixL N s = some i → en = .returned (.bool false) ∧ w = w') ∧
  (ixL N s = none → ∃ b, en = .returned (.bool true) ∧ w'.heap[g]? = some (.cells (cs.setIfInBounds o (.map (some b))) t (0, 0)) ∧ NmAt w' (.map (some b)) (N ++ [s]) ∧ (mv = .map (some b) ∨ (mv = .map none ∧ w.heap.size ≤ b)) ∧ Chg (fun k => k = g ∨ mv = .map (some k)) w w')
theorem nmIs_nil : NmIs (.map []) [] := ⟨fun s => rfl, fun s => rfl, rfl⟩
theorem add_hit (g o : Nat) (mv : Value) (N : List (List UInt8)) (s : List UInt8) (w : World) (i : Nat) (hq : ixL N s = some i) (hc : w.cell? ⟨g, o, none⟩ = some mv) (h : NmAt w mv N) (hs : s.length ≤ 140737488355328) :
    Calls Tryz.prog 73 #[.pointer (some ⟨g, o, none⟩), .string ⟨s.toArray⟩] w (fun en w' => en = .returned (.bool false) ∧ w = w') := by
  have hrun := nm_look h s hs
  rw [hq] at hrun
  unfold plV at hrun
  clear h hq
  go_enter Tryz.func73, Tryz.ntmps73
  go_wp2
  go_ret
  exact ⟨rfl, rfl⟩
theorem sn_setcell {w : World} {g o b : Nat} {cs : Array Value} {t : TypeId} {v : Value} (hg : w.heap[g]? = some (.cells cs t (0, 0))) : (w.setCell ⟨g, o, none⟩ v).heap[g]? = some (.cells (cs.setIfInBounds o v) t (0, 0)) := obj_set hg o v
set_option maxHeartbeats 1000000 in
set_option maxRecDepth 100000 in
theorem add_new (g o : Nat) (cs : Array Value) (t : TypeId) (s : List UInt8) (w : World) (hg : w.heap[g]? = some (.cells cs t (0, 0))) (ho : cs[o]? = some (.map none)) (hs : s.length ≤ 140737488355328) :
    Calls Tryz.prog 73 #[.pointer (some ⟨g, o, none⟩), .string ⟨s.toArray⟩] w (AddPost cs t g o (.map none) [] s w) := by
  have hc := obj_cell hg o _ ho
  have hf := obj_free hg o
  have hgl := obj_lt hg
  have hrun : (Instr.lookup 69 (.map none) (.string ⟨s.toArray⟩) true).run Tryz.prog w = .ok (.tuple #[.int .i64 0, .bool false]) w := nm_look (nmAt_nil w) s hs
  have qT : ∀ (w : World) (r : Option Nat), (binOp .eql 69 (.map r) (.map none)).run Tryz.prog w = .ok (.bool r.isNone) w := fun w r => run_eql_map_nil w _ _ _ r Tryz.underlying69
  have hmm := @run_makeMap Tryz.prog
  have hk := snkey s hs
  obtain ⟨W1, hW1⟩ : ∃ W1, (w.setCell ⟨g, o, none⟩ (.map (some w.heap.size))).alloc (.map #[] 0) = W1 := ⟨_, rfl⟩
  have hown : W1.ownsMap Tryz.prog 9 (plainElem (H := Unit) Tryz.prog 3) w.heap.size 0 (.map []) := by
    rw [← hW1]
    have hm := World.ownsMap_made (w.setCell ⟨g, o, none⟩ (.map (some w.heap.size))) Tryz.prog 9 (plainElem (H := Unit) Tryz.prog 3)
    rw [show (w.setCell ⟨g, o, none⟩ (.map (some w.heap.size))).heap.size = w.heap.size by simp] at hm
    exact hm
  have hg1 : W1.heap[g]? = some (.cells (cs.setIfInBounds o (.map (some w.heap.size))) t (0, 0)) := by
    rw [← hW1]
    exact obj_alloc (obj_set hg o _) _
  have hol : o < cs.size := (Array.getElem?_eq_some_iff.1 ho).1
  have hc1 : W1.cell? ⟨g, o, none⟩ = some (.map (some w.heap.size)) := obj_cell hg1 o _ (by simp [hol])
  have hch : Chg (fun k => k = g ∨ (Value.map none) = .map (some k)) w W1 := by
    rw [← hW1]
    exact ((Chg.refl _ w).setCell (p := ⟨g, o, none⟩) (fun _ => .inl rfl) _).alloc _
  have hlen : ∀ ty, (Builtin.len_ #[69] ty #[.map (some w.heap.size)]).run Tryz.prog W1.drew = .ok (.int .i64 0) W1.drew := fun ty => hown.drew.len Tryz.underlying69 ty
  obtain ⟨b, hb⟩ : ∃ b, w.heap.size = b := ⟨_, rfl⟩
  have HH := Lib.hid (And.intro hown (And.intro hg1 (And.intro hch hb)))
  have HK := Lib.hid hk
  have HW := Lib.hid hW1
  have HL := Lib.hid hlen
  have HC := Lib.hid hc1
  clear hg ho hs hol hown hg1 hch hb hk hW1 hlen hc1
  go_enter Tryz.func73, Tryz.ntmps73
  go_wp2
  rw [HW.out]
  have hc1 := HC.out
  have hc2 : W1.drew.cell? ⟨g, o, none⟩ = _ := HC.out
  have hlen := HL.out
  clear hc hrun
  go_still_tail 10, (by kernel_rfl)
  change wpList _ _ _ _ _ W1.drew
  have hown := HH.out.1.drew
  have hk := HK.out
  clear hc1 hc2 hlen qT hmm
  go_wp2_with (at_mapUpdate; refine wpList_mapUpdate_own _ rfl _ _ _ 69 rfl 9 3 snlaw Tryz.underlying69 _ w.heap.size 0 _ rfl hown (by unfold maxLen; omega) _ _ _ rfl rfl hk _ [] (plainElem_int Tryz.underlying3 (by decide)) ?_; intro w1 hown1 hgrow1)
  go_ret
  refine ⟨fun i h => by simp [ixL] at h, fun _ => ⟨w.heap.size, rfl, ?_, ?_, .inr ⟨rfl, Nat.le_refl _⟩, ?_⟩⟩
  · exact obj_chg (w := W1.drew) HH.out.2.1 (Chg.ofGrown hgrow1) (by intro h; injection h with h; omega)
  · exact .inr ⟨_, _, rfl, hown1, nmIs_put (N := []) (HH.out.1.tidy snlaw) nmIs_nil rfl⟩
  · exact HH.out.2.2.1.drew.trans (Chg.ofGrown hgrow1) (fun k hk h => by injection h with h; omega)
set_option maxHeartbeats 1000000 in
set_option maxRecDepth 100000 in
theorem add_more (g o b : Nat) (cs : Array Value) (t : TypeId) (N : List (List UInt8)) (s : List UInt8) (w : World) (hq : ixL N s = none) (hg : w.heap[g]? = some (.cells cs t (0, 0))) (ho : cs[o]? = some (.map (some b))) (h : NmAt w (.map (some b)) N) (hN : N.length ≤ 1000000) (hs : s.length ≤ 140737488355328) :
    Calls Tryz.prog 73 #[.pointer (some ⟨g, o, none⟩), .string ⟨s.toArray⟩] w (AddPost cs t g o (.map (some b)) N s w) := by
  have hc := obj_cell hg o _ ho
  have hne := nmAt_ne h hg
  have hrun : (Instr.lookup 69 (.map (some b)) (.string ⟨s.toArray⟩) true).run Tryz.prog w = .ok (.tuple #[.int .i64 0, .bool false]) w := by
    have := nm_look h s hs
    rw [hq] at this; exact this
  have qT : ∀ (w : World) (r : Option Nat), (binOp .eql 69 (.map r) (.map none)).run Tryz.prog w = .ok (.bool r.isNone) w := fun w r => run_eql_map_nil w _ _ _ r Tryz.underlying69
  have hk := snkey s hs
  have hgm := (Array.getElem?_eq_some_iff.1 ho).1
  obtain ⟨D, hown, hD⟩ : ∃ D, w.ownsMap Tryz.prog 9 (plainElem (H := Unit) Tryz.prog 3) b N.length D ∧ NmIs D N := by
    rcases h with ⟨h, _⟩ | ⟨b', D, h, hm, hD⟩
    · cases h
    · injection h with h; injection h with h; subst h; exact ⟨D, hm, hD⟩
  have hsz := hD.2.2
  have hlen : ∀ ty, (Builtin.len_ #[69] ty #[.map (some b)]).run Tryz.prog w.drew = .ok (.int .i64 (N.length : Nat)) w.drew := fun ty => by
    rw [← hsz]; exact hown.drew.len Tryz.underlying69 ty
  have hc2 : w.drew.cell? ⟨g, o, none⟩ = _ := hc
  have hset : cs.setIfInBounds o (.map (some b)) = cs := by
    apply Array.ext_getElem?
    intro i
    rw [Array.getElem?_setIfInBounds]
    split
    · rename_i e
      subst e
      simp [hgm]
      rw [Array.getElem?_eq_getElem hgm] at ho
      injection ho with ho
      rw [ho]
    · rfl
  have HH := Lib.hid (And.intro hown (And.intro hg (And.intro hD (And.intro hq (And.intro hne hset)))))
  have HK := Lib.hid hk
  clear hg ho hs hown hk hD hq hne hset hsz h
  go_enter Tryz.func73, Tryz.ntmps73
  go_wp2
  go_still_tail 10, (by kernel_rfl)
  change wpList _ _ _ _ _ w.drew
  have hown := HH.out.1.drew
  have hk := HK.out
  clear hc hc2 hlen qT hrun
  have hw : (Lit.int .i64 (N.length : Nat)).wf = true := WalkArith.wf_i64 (by omega)
  go_wp2_with (at_mapUpdate; refine wpList_mapUpdate_own _ rfl _ _ _ 69 rfl 9 3 snlaw Tryz.underlying69 _ b N.length _ rfl hown (by unfold maxLen; omega) _ _ _ rfl rfl hk _ [] (plainElem_int Tryz.underlying3 hw) ?_; intro w1 hown1 hgrow1)
  go_ret
  refine ⟨fun i h => (by rw [HH.out.2.2.2.1] at h; cases h), fun _ => ⟨b, rfl, ?_, ?_, .inl rfl, ?_⟩⟩
  · rw [HH.out.2.2.2.2.2]
    exact obj_chg (w := w.drew) HH.out.2.1 (Chg.ofGrown hgrow1) (by intro h; injection h with h; exact HH.out.2.2.2.2.1 h.symm)
  · refine .inr ⟨_, _, rfl, ?_, nmIs_put (HH.out.1.tidy snlaw) HH.out.2.2.1 HH.out.2.2.2.1⟩
    rw [List.length_append]
    exact hown1
  · exact (Chg.refl _ w).drew.trans (Chg.ofGrown hgrow1) (fun k hk h => by injection h with h; exact .inr (by rw [h]))
theorem add_any (g o : Nat) (cs : Array Value) (t : TypeId) (mv : Value) (N : List (List UInt8)) (s : List UInt8) (w : World) (hg : w.heap[g]? = some (.cells cs t (0, 0))) (ho : cs[o]? = some mv) (h : NmAt w mv N) (hN : N.length ≤ 1000000) (hs : s.length ≤ 140737488355328) :
    Calls Tryz.prog 73 #[.pointer (some ⟨g, o, none⟩), .string ⟨s.toArray⟩] w (AddPost cs t g o mv N s w) := by
  cases hq : ixL N s with
  | some i =>
    refine (add_hit g o mv N s w i hq (obj_cell hg o _ ho) h hs).mono fun en w' he => ⟨fun _ _ => he, fun hn => ?_⟩
    rw [hq] at hn; cases hn
  | none =>
    obtain ⟨rfl, rfl⟩ | ⟨b, D, rfl, hm, hD⟩ := id h
    · exact add_new g o cs t s w hg ho hs
    · exact add_more g o b cs t N s w hq hg ho h hN hs
end Go.Proofs.YtcfckgpjdaadeaaGreatDoor
