/- Whether names and rules may be: the code's isLetter, isName, isRule, and the predicates of the tables. A table of names in memory: the place of a name, and a name put behind those that are there. The code's slices.IndexFunc and slices.ContainsFunc over types and classes. The code's table of types, filled. The code's lists made small. The code's table of classes, filled. The code's hasTypes: is there a type for all that classes ask for? The code's New: a schema of types and classes. The plain schema: its types and classes, and the code's Plain. The code's slices.Clone of texts; Type and Class of a schema. The code's slices.Clone of texts; Type and Class of a schema. The code's typesOf: the types of attributes. -/
import Derived.Test.YtpkbgkoocijegaaGreatDoorPlnA
import Derived.Test.YtpkbgkoocijegaaGreatDoorDqA
import Derived.Test.YtpkbgkoocijegaaGreatDoorFoldAE
import Derived.Test.YtpkbgkoocijegaaGreatDoorChecked
import Derived.Test.YtpkbgkoocijegaaGreatDoorGenB
import Derived.Maps.OwnOps
import Derived.WalkSpells
import Derived.StillTailTactics
import Derived.Maps.OwnSet
import Derived.Maps.Views
import Derived.StringKeys
import Derived.Test.YtpkbgkoocijegaaGreatDoorScAD
import Derived.Deep.CutRange
import Derived.Deep.RegionWith
import Derived.Deep.LoopGhost
import Derived.Deep.RegionHeld3
set_option linter.unusedVariables false
set_option linter.unusedSimpArgs false
set_option maxHeartbeats 25600000
set_option maxRecDepth 100000
namespace Go.Proofs.YtpkbgkoocijegaaGreatDoor
open Go Go.RowKit Go.Proofs.BerK Go.Proofs.MemK Go.Proofs.UtfK
theorem snlet_any (c : Nat) (w : World) : Calls Tryz.prog 175 #[.int .u8 (c : Nat)] w (PureB (letN c) w) := by
 go_enter Tryz.func175, Tryz.ntmps175
 go_wp2
 all_goals (go_ret; refine pureB_mk ?_; rw [Bool.eq_iff_iff]; simp only [letN, Bool.or_eq_true, Bool.and_eq_true, decide_eq_true_eq, beq_iff_eq, Bool.false_eq_true, iff_false, iff_true] <;> omega)
theorem snrule_any (r : Int) (w : World) : Calls Tryz.prog 122 #[.int .i64 r] w (PureB (okRule r) w) := by
 go_enter Tryz.func122, Tryz.ntmps122
 go_wp2
 all_goals (go_ret; refine pureB_mk ?_; rw [Bool.eq_iff_iff]; simp only [okRule, Bool.or_eq_true, Bool.and_eq_true, decide_eq_true_eq, beq_iff_eq, Bool.false_eq_true, iff_false, iff_true] <;> omega)
theorem snname_any (s : ByteArray) (w : World) : Calls Tryz.prog 120 #[.string s] w (PureB (tyL s.data.toList) w) := by
 by_cases h0 : s.size = 0
 ·have hem := str_e s h0
  have H := Hy (tyL_nil s h0)
  clear h0
  go_enter Tryz.func120, Tryz.ntmps120
  go_wp2
  go_ret
  exact pureB_mk H.out
 have hem := str_ne s (by omega)
 by_cases h64 : 64 < s.size
 ·have H := Hy (tyL_long s h64)
  have hq : (64 : Int) < (s.size : Int) := by omega
  clear h0 h64
  go_enter Tryz.func120, Tryz.ntmps120
  go_wp2
  go_ret
  exact pureB_mk H.out
 have hq : (s.size : Int) <= 64 := by omega
 have hq1 : (0 : Int) < (s.size : Int) := by omega
 have hp : 0 < s.size := by omega
 by_cases hl : letN s[0].toNat = true
 ·have HC0 := Hy (snlet_any s[0].toNat)
  rw [hl] at HC0
  have HB := Hy (tyL_bad s)
  have HK := Hy (tyL_ok s hp (by omega) hl)
  clear h0 h64 hl
  go_enter Tryz.func120, Tryz.ntmps120
  go_wp2_with fail
  refine (HC0.out _).mono ?_
  rintro e w1 ⟨rfl, hw⟩
  obtain rfl := hw.symm
  go_wp2
  go_loop [20] (fun v => ∃ k : Nat, k <= s.size /\ v = .int .i64 (k : Nat) /\ (s.data.toList.take k).all (fun c => tcN c.toNat) = true) (fun v => s.size - (intOf v).toNat)
  case atStart => exact ⟨0, by omega, rfl, rfl⟩
  case round =>
   obtain ⟨k, hk, rfl, hall⟩ := hrel
   by_cases hlt : k < s.size
   ·have hb : s[k].toNat < 256 := s[k].toNat_lt
    have hkl : (k : Int) < (s.size : Int) := by omega
    have HC := Hy (snlet_any s[k].toNat)
    by_cases hd : tcN s[k].toNat = true
    ·have H := Hy (all_step s k hlt _ hall hd)
     by_cases hlk : letN s[k].toNat = true
     ·rw [hlk] at HC
      clear hall hd hlk
      go_wp2_with fail
      refine (HC.out _).mono ?_
      rintro e w1 ⟨rfl, hw⟩
      obtain rfl := hw.symm
      go_wp2
      exact ⟨⟨k + 1, by omega, by go_num, H.out⟩, by simp [intOf]; omega⟩
     ·have hlf : letN s[k].toNat = false := by simpa using hlk
      rw [hlf] at HC
      obtain ⟨c, hc⟩ : ∃ c, s[k].toNat = c := ⟨_, rfl⟩
      have hw := tcN_ways c (hc ▸ hlf) (hc ▸ hd)
      have hw' : ((48 : Int) <= (c : Int) /\ (c : Int) <= 57) \/ ((c : Int) < 48 /\ ((c : Int) != 45) = false) := by simp; omega
      clear hall hd hlk hlf hw
      rw [hc] at HC hb
      rcases hw' with ⟨g1, g2⟩ | ⟨g1, g2⟩
      ·go_wp2_with fail
       refine (HC.out _).mono ?_
       rintro e w1 ⟨rfl, hw⟩
       obtain rfl := hw.symm
       go_wp2
       exact ⟨⟨k + 1, by omega, by go_num, H.out⟩, by simp [intOf]; omega⟩
      ·go_wp2_with fail
       refine (HC.out _).mono ?_
       rintro e w1 ⟨rfl, hw⟩
       obtain rfl := hw.symm
       go_wp2
       exact ⟨⟨k + 1, by omega, by go_num, H.out⟩, by simp [intOf]; omega⟩
    ·have hdf : tcN s[k].toNat = false := by simpa using hd
     have H := Hy (HB.out k hlt hdf)
     have hlf : letN s[k].toNat = false := by
      cases hq : letN s[k].toNat
      ·rfl
      ·rw [tcN_let _ hq] at hdf; cases hdf
     rw [hlf] at HC
     obtain ⟨c, hc⟩ : ∃ c, s[k].toNat = c := ⟨_, rfl⟩
     have hw := tcN_not c (hc ▸ hlf) (hc ▸ hdf)
     have hw' : ((c : Int) < 48 \/ (48 : Int) <= (c : Int) /\ (57 : Int) < (c : Int)) := by omega
     have hw2 : ((c : Int) != 45) = true := by simp; omega
     clear hall hd hlf hw hdf
     rw [hc] at HC hb
     rcases hw' with g1 | ⟨g1, g2⟩
     all_goals
      go_wp2_with fail
      refine (HC.out _).mono ?_
      rintro e w1 ⟨rfl, hw⟩
      obtain rfl := hw.symm
      go_wp2
      go_ret
      exact pureB_mk H.out
   ·obtain rfl : k = s.size := by omega
    have H := Hy (HK.out hall)
    clear hall
    go_wp2
    go_ret
    exact pureB_mk H.out
 ·have hlf : letN s[0].toNat = false := by simpa using hl
  have HC0 := Hy (snlet_any s[0].toNat)
  rw [hlf] at HC0
  have H := Hy (tyL_head s hp hlf)
  clear h0 h64 hl hlf
  go_enter Tryz.func120, Tryz.ntmps120
  go_wp2_with fail
  refine (HC0.out _).mono ?_
  rintro e w1 ⟨rfl, hw⟩
  obtain rfl := hw.symm
  go_wp2
  go_ret
  exact pureB_mk H.out
def BB (b : Bool) (w : World) (en : Ending) (w' : World) : Prop := en = .returned (.bool b) /\ Below w.heap.size w w'
theorem bB_mk {a b : Bool} {w w' : World} (h : b = a) (hb : Below w.heap.size w w') : BB b w (.returned (.bool a)) w' := by subst h; exact ⟨rfl, hb⟩
theorem snp1_any (nm : ByteArray) (r : Int) (sg : Bool) (w : World) : Calls Tryz.prog 119 #[.agg #[.string nm, .int .i64 r, .bool sg]] w (BB (!tyL nm.data.toList) w) := by
 have HN := Hy (snname_any nm)
 obtain ⟨b, hb⟩ : ∃ b, tyL nm.data.toList = b := ⟨_, rfl⟩
 rw [hb] at HN ⊢
 clear hb
 go_enter Tryz.func119, Tryz.ntmps119
 go_wp2_with fail
 refine (HN.out _).mono ?_
 rintro e w1 ⟨rfl, hw⟩
 obtain rfl := hw.symm
 go_wp2
 go_ret
 exact bB_mk rfl ((Below.refl _ _).alloc (Nat.le_refl _) _)
theorem snp2_any (nm : ByteArray) (r : Int) (sg : Bool) (w : World) : Calls Tryz.prog 121 #[.agg #[.string nm, .int .i64 r, .bool sg]] w (BB (!okRule r) w) := by
 have HN := Hy (snrule_any r)
 obtain ⟨b, hb⟩ : ∃ b, okRule r = b := ⟨_, rfl⟩
 rw [hb] at HN ⊢
 clear hb
 go_enter Tryz.func121, Tryz.ntmps121
 go_wp2_with fail
 refine (HN.out _).mono ?_
 rintro e w1 ⟨rfl, hw⟩
 obtain rfl := hw.symm
 go_wp2
 go_ret
 exact bB_mk rfl ((Below.refl _ _).alloc (Nat.le_refl _) _)
theorem snp3_any (nm : ByteArray) (a b : Option Addr) (n c n' c' : Nat) (w : World) : Calls Tryz.prog 125 #[.agg #[.string nm, .slice a n c, .slice b n' c']] w (BB (!tyL nm.data.toList) w) := by
 have HN := Hy (snname_any nm)
 obtain ⟨b, hb⟩ : ∃ b, tyL nm.data.toList = b := ⟨_, rfl⟩
 rw [hb] at HN ⊢
 clear hb
 go_enter Tryz.func125, Tryz.ntmps125
 go_wp2_with fail
 refine (HN.out _).mono ?_
 rintro e w1 ⟨rfl, hw⟩
 obtain rfl := hw.symm
 go_wp2
 go_ret
 exact bB_mk rfl ((Below.refl _ _).alloc (Nat.le_refl _) _)
end Go.Proofs.YtpkbgkoocijegaaGreatDoor
namespace Go.Proofs.YtpkbgkoocijegaaGreatDoor
open Go Go.RowKit Go.Proofs.BerK Go.Proofs.MemK Go.Maps Go.WideMaps
theorem snlaw : Keyed Tryz.prog 9 := string_keyed Tryz.underlying9
theorem snzero (w : World) : (zeroValue 3).run Tryz.prog w = .ok (.int .i64 0) w := by kernel_rfl
theorem snkey (s : List UInt8) (h : s.length <= 140737488355328) : keyOf Tryz.prog 9 (.string ⟨s.toArray⟩) = some (.string s) :=
 keyOf_string_mk Tryz.underlying9 (s := ⟨s.toArray⟩) (by show s.length <= maxLen; unfold maxLen; omega)
theorem snIsKey {s : List UInt8} : WideAt.IsKeyLit (.string s) := by simp [WideAt.IsKeyLit]
def NmIs (D : DataW Unit) (N : List (List UInt8)) : Prop :=
 (∀ s : List UInt8, Maps.has D (.string s) = (ixL N s).isSome) /\ (∀ s : List UInt8, D.atKey (.string s) (.lit (.int .i64 0)) = .lit (.int .i64 (((ixL N s).getD 0 : Nat) : Int))) /\ Maps.size D = N.length
def NmAt (w : World) (mv : Value) (N : List (List UInt8)) : Prop :=
 (mv = .map none /\ N = []) \/ ∃ b D, mv = .map (some b) /\ w.ownsMap Tryz.prog 9 (plainElem (H := Unit) Tryz.prog 3) b N.length D /\ NmIs D N
theorem nmAt_nil (w : World) : NmAt w (.map none) [] := .inl ⟨rfl, rfl⟩
theorem ownsMap_chg {S : Nat -> Prop} {w w' : World} {b n : Nat} {D : DataW Unit} (h : w.ownsMap Tryz.prog 9 (plainElem Tryz.prog 3) b n D) (hc : Chg S w w') (hs : ¬ S b) : w'.ownsMap Tryz.prog 9 (plainElem Tryz.prog 3) b n D := by
 have hlt := h.lt
 obtain ⟨es, clock, hb, F, hs', hD⟩ := h
 exact ⟨es, clock, (hc.block b hlt hs).trans hb, F, hs', hD⟩
theorem nmAt_chg {S : Nat -> Prop} {w w' : World} {mv : Value} {N : List (List UInt8)} (h : NmAt w mv N) (hc : Chg S w w') (hs : ∀ b, mv = .map (some b) -> ¬ S b) : NmAt w' mv N := by
 rcases h with h | ⟨b, D, rfl, h, hD⟩
 ·exact .inl h
 ·exact .inr ⟨b, D, rfl, ownsMap_chg h hc (hs b rfl), hD⟩
theorem nmAt_below {w w' : World} {mv : Value} {N : List (List UInt8)} (h : NmAt w mv N) (hb : Below w.heap.size w w') : NmAt w' mv N :=
 nmAt_chg h (Chg.ofBelow (S := fun _ => False) hb) (fun _ _ h => h)
theorem nmAt_ne {w : World} {b g : Nat} {N : List (List UInt8)} {cs : Array Value} {t : TypeId} {m : Nat × Nat} (h : NmAt w (.map (some b)) N) (hg : w.heap[g]? = some (.cells cs t m)) : b ≠ g := by
 rcases h with ⟨h, _⟩ | ⟨b', D, h, hm, _⟩
 ·cases h
 ·injection h with h; injection h with h; subst h
  obtain ⟨es, clock, hb, _⟩ := hm
  rintro rfl
  rw [hb] at hg; cases hg
theorem lit_int_inj {a b : Int} (h : (DataW.lit (.int .i64 a) : DataW Unit) = .lit (.int .i64 b)) : a = b := by cases h; rfl
def plV (o : Option Nat) : Value := match o with
 | none => .tuple #[.int .i64 0, .bool false]
 | some i => .tuple #[.int .i64 (i : Nat), .bool true]
def PlPost (o : Option Nat) (w : World) (en : Ending) (w' : World) : Prop := en = .returned (plV o) /\ w = w'
theorem nm_look {w : World} {mv : Value} {N : List (List UInt8)} (h : NmAt w mv N) (s : List UInt8) (hs : s.length <= 140737488355328) :
  (Instr.lookup 125 mv (.string ⟨s.toArray⟩) true).run Tryz.prog w = .ok (plV (ixL N s)) w := by
 rcases h with ⟨rfl, rfl⟩ | ⟨b, D, rfl, h, h1, h2, _⟩
 ·exact Maps.look_nil true snlaw Tryz.underlying125 (snzero w) (snkey s hs)
 ·obtain ⟨v, ps, hrun, hv⟩ := h.look_ok snlaw Tryz.underlying125 (snzero w) (plainElem_int Tryz.underlying3 (by decide)) (snkey s hs)
  rw [hrun]
  obtain ⟨c, rfl, hc, _⟩ := plainElem_int_inv Tryz.underlying3 hv
  have e : c = (((ixL N s).getD 0 : Nat) : Int) := by
   have e1 := congrArg Prod.fst hc
   have e2 := (h2 s).symm.trans e1
   exact (lit_int_inj e2).symm
  rw [e, h1]
  cases hq : ixL N s with
  | none => rfl
  | some i => rfl
theorem place_any (g o : Nat) (mv : Value) (N : List (List UInt8)) (s : List UInt8) (w : World) (hc : w.cell? ⟨g, o, none⟩ = some mv) (h : NmAt w mv N) (hs : s.length <= 140737488355328) :
  Calls Tryz.prog 73 #[.pointer (some ⟨g, o, none⟩), .string ⟨s.toArray⟩] w (PlPost (ixL N s) w) := by
 have hrun := nm_look h s hs
 cases hq : ixL N s with
 | none =>
  rw [hq] at hrun
  unfold plV at hrun
  clear h hq
  go_enter Tryz.func73, Tryz.ntmps73
  go_wp2
  go_ret2
  exact ⟨rfl, rfl⟩
 | some i =>
  rw [hq] at hrun
  unfold plV at hrun
  clear h hq
  go_enter Tryz.func73, Tryz.ntmps73
  go_wp2
  go_ret2
  exact ⟨rfl, rfl⟩
theorem nmIs_put {D : DataW Unit} {N : List (List UInt8)} {s : List UInt8} (hT : Tidy D) (h : NmIs D N) (hn : ixL N s = none) : NmIs (D.put (.string s) (.lit (.int .i64 (N.length : Nat)))) (N ++ [s]) := by
 obtain ⟨h1, h2, h3⟩ := h
 have hh : Maps.has D (.string s) = false := by rw [h1, hn]; rfl
 refine ⟨fun k => ?_, fun k => ?_, ?_⟩
 ·rw [ix_snoc]
  by_cases e : k = s
  ·subst e
   rw [has_put_same hT.isMap snIsKey, hn]
   simp
  ·have e2 : (s == k) = false := by simpa using fun h => e h.symm
   rw [has_put_other (fun q => e (by injection q)), h1, e2]
   simp
 ·rw [ix_snoc]
  by_cases e : k = s
  ·subst e
   rw [atKey_put_same hT.isMap snIsKey, hn]
   simp
  ·have e2 : (s == k) = false := by simpa using fun h => e h.symm
   rw [atKey_put_other (fun q => e (by injection q)), h2, e2]
   simp
 ·rw [size_put hT, hh, h3]; simp
def AddPost (cs : Array Value) (t : TypeId) (g o : Nat) (mv : Value) (N : List (List UInt8)) (s : List UInt8) (w : World) (en : Ending) (w' : World) : Prop :=
 (∀ i, ixL N s = some i -> en = .returned (.bool false) /\ w = w') /\
 (ixL N s = none -> ∃ b, en = .returned (.bool true) /\ w'.heap[g]? = some (.cells (cs.setIfInBounds o (.map (some b))) t (0, 0)) /\ NmAt w' (.map (some b)) (N ++ [s]) /\ (mv = .map (some b) \/ (mv = .map none /\ w.heap.size <= b)) /\ Chg (fun k => k = g \/ mv = .map (some k)) w w')
theorem nmIs_nil : NmIs (.map []) [] := ⟨fun s => rfl, fun s => rfl, rfl⟩
theorem add_hit (g o : Nat) (mv : Value) (N : List (List UInt8)) (s : List UInt8) (w : World) (i : Nat) (hq : ixL N s = some i) (hc : w.cell? ⟨g, o, none⟩ = some mv) (h : NmAt w mv N) (hs : s.length <= 140737488355328) :
  Calls Tryz.prog 123 #[.pointer (some ⟨g, o, none⟩), .string ⟨s.toArray⟩] w (fun en w' => en = .returned (.bool false) /\ w = w') := by
 have hrun := nm_look h s hs
 rw [hq] at hrun
 unfold plV at hrun
 clear h hq
 go_enter Tryz.func123, Tryz.ntmps123
 go_wp2
 go_ret
 exact ⟨rfl, rfl⟩
theorem add_new (g o : Nat) (cs : Array Value) (t : TypeId) (s : List UInt8) (w : World) (hg : w.heap[g]? = some (.cells cs t (0, 0))) (ho : cs[o]? = some (.map none)) (hs : s.length <= 140737488355328) :
  Calls Tryz.prog 123 #[.pointer (some ⟨g, o, none⟩), .string ⟨s.toArray⟩] w (AddPost cs t g o (.map none) [] s w) := by
 have hc := obj_cell hg o _ ho
 have hf := obj_free hg o
 have hgl := obj_lt hg
 have hrun : (Instr.lookup 125 (.map none) (.string ⟨s.toArray⟩) true).run Tryz.prog w = .ok (.tuple #[.int .i64 0, .bool false]) w := nm_look (nmAt_nil w) s hs
 have qT : ∀ (w : World) (r : Option Nat), (binOp .eql 125 (.map r) (.map none)).run Tryz.prog w = .ok (.bool r.isNone) w := fun w r => run_eql_map_nil w _ _ _ r Tryz.underlying125
 have hmm := @run_makeMap Tryz.prog
 have hk := snkey s hs
 obtain ⟨W1, hW1⟩ : ∃ W1, (w.setCell ⟨g, o, none⟩ (.map (some w.heap.size))).alloc (.map #[] 0) = W1 := ⟨_, rfl⟩
 have hown : W1.ownsMap Tryz.prog 9 (plainElem (H := Unit) Tryz.prog 3) w.heap.size 0 (.map []) := by
  rw [<- hW1]
  have hm := World.ownsMap_made (w.setCell ⟨g, o, none⟩ (.map (some w.heap.size))) Tryz.prog 9 (plainElem (H := Unit) Tryz.prog 3)
  rw [show (w.setCell ⟨g, o, none⟩ (.map (some w.heap.size))).heap.size = w.heap.size by simp] at hm
  exact hm
 have hg1 : W1.heap[g]? = some (.cells (cs.setIfInBounds o (.map (some w.heap.size))) t (0, 0)) := by
  rw [<- hW1]
  exact obj_alloc (obj_set hg o _) _
 have hol : o < cs.size := (Array.getElem?_eq_some_iff.1 ho).1
 have hc1 : W1.cell? ⟨g, o, none⟩ = some (.map (some w.heap.size)) := obj_cell hg1 o _ (by simp [hol])
 have hch : Chg (fun k => k = g \/ (Value.map none) = .map (some k)) w W1 := by
  rw [<- hW1]
  exact ((Chg.refl _ w).setCell (p := ⟨g, o, none⟩) (fun _ => .inl rfl) _).alloc _
 have hlen : ∀ ty, (Builtin.len_ #[125] ty #[.map (some w.heap.size)]).run Tryz.prog W1.drew = .ok (.int .i64 0) W1.drew := fun ty => hown.drew.len Tryz.underlying125 ty
 obtain ⟨b, hb⟩ : ∃ b, w.heap.size = b := ⟨_, rfl⟩
 have HH := Hy (An hown (An hg1 (An hch hb)))
 have HK := Hy hk
 have HW := Hy hW1
 have HL := Hy hlen
 have HC := Hy hc1
 clear hg ho hs hol hown hg1 hch hb hk hW1 hlen hc1
 go_enter Tryz.func123, Tryz.ntmps123
 go_wp2
 rw [HW.out]
 have hc1 := HC.out
 have hc2 : W1.drew.cell? ⟨g, o, none⟩ = _ := HC.out
 have hlen := HL.out
 clear hc hrun
 go_still_tail 10, (by kernel_rfl)
 change wpList _ _ _ _ _ W1.drew
 have hown := HH.out.1.drew
 have hk := HK.out
 clear hc1 hc2 hlen qT hmm
 go_wp2_with (at_mapUpdate; refine wpList_mapUpdate_own _ rfl _ _ _ 125 rfl 9 3 snlaw Tryz.underlying125 _ w.heap.size 0 _ rfl hown (by unfold maxLen; omega) _ _ _ rfl rfl hk _ [] (plainElem_int Tryz.underlying3 (by decide)) ?_; intro w1 hown1 hgrow1)
 go_ret
 refine ⟨fun i h => by simp [ixL] at h, fun _ => ⟨w.heap.size, rfl, ?_, ?_, .inr ⟨rfl, Nat.le_refl _⟩, ?_⟩⟩
 ·exact obj_chg (w := W1.drew) HH.out.2.1 (Chg.ofGrown hgrow1) (by intro h; injection h with h; omega)
 ·exact .inr ⟨_, _, rfl, hown1, nmIs_put (N := []) (HH.out.1.tidy snlaw) nmIs_nil rfl⟩
 ·exact HH.out.2.2.1.drew.trans (Chg.ofGrown hgrow1) (fun k hk h => by injection h with h; omega)
theorem add_more (g o b : Nat) (cs : Array Value) (t : TypeId) (N : List (List UInt8)) (s : List UInt8) (w : World) (hq : ixL N s = none) (hg : w.heap[g]? = some (.cells cs t (0, 0))) (ho : cs[o]? = some (.map (some b))) (h : NmAt w (.map (some b)) N) (hN : N.length <= 1000000) (hs : s.length <= 140737488355328) :
  Calls Tryz.prog 123 #[.pointer (some ⟨g, o, none⟩), .string ⟨s.toArray⟩] w (AddPost cs t g o (.map (some b)) N s w) := by
 have hc := obj_cell hg o _ ho
 have hne := nmAt_ne h hg
 have hrun : (Instr.lookup 125 (.map (some b)) (.string ⟨s.toArray⟩) true).run Tryz.prog w = .ok (.tuple #[.int .i64 0, .bool false]) w := by
  have := nm_look h s hs
  rw [hq] at this; exact this
 have qT : ∀ (w : World) (r : Option Nat), (binOp .eql 125 (.map r) (.map none)).run Tryz.prog w = .ok (.bool r.isNone) w := fun w r => run_eql_map_nil w _ _ _ r Tryz.underlying125
 have hk := snkey s hs
 have hgm := (Array.getElem?_eq_some_iff.1 ho).1
 obtain ⟨D, hown, hD⟩ : ∃ D, w.ownsMap Tryz.prog 9 (plainElem (H := Unit) Tryz.prog 3) b N.length D /\ NmIs D N := by
  rcases h with ⟨h, _⟩ | ⟨b', D, h, hm, hD⟩
  ·cases h
  ·injection h with h; injection h with h; subst h; exact ⟨D, hm, hD⟩
 have hsz := hD.2.2
 have hlen : ∀ ty, (Builtin.len_ #[125] ty #[.map (some b)]).run Tryz.prog w.drew = .ok (.int .i64 (N.length : Nat)) w.drew := fun ty => by
  rw [<- hsz]; exact hown.drew.len Tryz.underlying125 ty
 have hc2 : w.drew.cell? ⟨g, o, none⟩ = _ := hc
 have hset : cs.setIfInBounds o (.map (some b)) = cs := by
  apply Array.ext_getElem?
  intro i
  rw [Array.getElem?_setIfInBounds]
  split
  ·rename_i e
   subst e
   simp [hgm]
   rw [Array.getElem?_eq_getElem hgm] at ho
   injection ho with ho
   rw [ho]
  ·rfl
 have HH := Hy (An hown (An hg (An hD (An hq (An hne hset)))))
 have HK := Hy hk
 clear hg ho hs hown hk hD hq hne hset hsz h
 go_enter Tryz.func123, Tryz.ntmps123
 go_wp2
 go_still_tail 10, (by kernel_rfl)
 change wpList _ _ _ _ _ w.drew
 have hown := HH.out.1.drew
 have hk := HK.out
 clear hc hc2 hlen qT hrun
 have hw : (Lit.int .i64 (N.length : Nat)).wf = true := WalkArith.wf_i64 (by omega)
 go_wp2_with (at_mapUpdate; refine wpList_mapUpdate_own _ rfl _ _ _ 125 rfl 9 3 snlaw Tryz.underlying125 _ b N.length _ rfl hown (by unfold maxLen; omega) _ _ _ rfl rfl hk _ [] (plainElem_int Tryz.underlying3 hw) ?_; intro w1 hown1 hgrow1)
 go_ret
 refine ⟨fun i h => (by rw [HH.out.2.2.2.1] at h; cases h), fun _ => ⟨b, rfl, ?_, ?_, .inl rfl, ?_⟩⟩
 ·rw [HH.out.2.2.2.2.2]
  exact obj_chg (w := w.drew) HH.out.2.1 (Chg.ofGrown hgrow1) (by intro h; injection h with h; exact HH.out.2.2.2.2.1 h.symm)
 ·refine .inr ⟨_, _, rfl, ?_, nmIs_put (HH.out.1.tidy snlaw) HH.out.2.2.1 HH.out.2.2.2.1⟩
  rw [List.length_append]
  exact hown1
 ·exact (Chg.refl _ w).drew.trans (Chg.ofGrown hgrow1) (fun k hk h => by injection h with h; exact .inr (by rw [h]))
theorem add_any (g o : Nat) (cs : Array Value) (t : TypeId) (mv : Value) (N : List (List UInt8)) (s : List UInt8) (w : World) (hg : w.heap[g]? = some (.cells cs t (0, 0))) (ho : cs[o]? = some mv) (h : NmAt w mv N) (hN : N.length <= 1000000) (hs : s.length <= 140737488355328) :
  Calls Tryz.prog 123 #[.pointer (some ⟨g, o, none⟩), .string ⟨s.toArray⟩] w (AddPost cs t g o mv N s w) := by
 cases hq : ixL N s with
 | some i =>
  refine (add_hit g o mv N s w i hq (obj_cell hg o _ ho) h hs).mono fun en w' he => ⟨fun _ _ => he, fun hn => ?_⟩
  rw [hq] at hn; cases hn
 | none =>
  obtain ⟨rfl, rfl⟩ | ⟨b, D, rfl, hm, hD⟩ := id h
  ·exact add_new g o cs t s w hg ho hs
  ·exact add_more g o b cs t N s w hq hg ho h hN hs
end Go.Proofs.YtpkbgkoocijegaaGreatDoor
namespace Go.Proofs.YtpkbgkoocijegaaGreatDoor
open Go Go.RowKit Go.Proofs.BerK Go.Proofs.MemK Go.Proofs.UtfK
theorem any_at {α : Type} {l : List α} {q : α -> Bool} (i : Nat) (hi : i < l.length) (h : q l[i] = true) : l.any q = true := by
 rw [List.any_eq_true]; exact ⟨l[i], List.getElem_mem hi, h⟩
theorem any_no {α : Type} {l : List α} {q : α -> Bool} (h : ∀ i (hi : i < l.length), q l[i] = false) : l.any q = false := by
 rw [List.any_eq_false]
 intro x hx
 obtain ⟨j, hj, rfl⟩ := List.getElem_of_mem hx
 simp [h j hj]
theorem slOk_form {v : Value} (h : SlOk v) : ∃ a n c, v = .slice a n c := by
 rcases h with rfl | ⟨ad, n, c, rfl⟩
 ·exact ⟨_, _, _, rfl⟩
 ·exact ⟨_, _, _, rfl⟩
def IxPost (b : Bool) (w : World) (en : Ending) (w' : World) : Prop := ∃ n : Int, en = .returned (.int .i64 n) /\ decide (0 <= n) = b /\ Below w.heap.size w w'
theorem cnT1i_any (T : List Ty) (tv : Value) (w : World) (h : TyAt w tv T) (hl : T.length <= 1000000) :
  Calls Tryz.prog 174 #[tv, .func (.func 119) #[] #[]] w (IxPost (T.any fun t => !tyL t.1) w) := by
 obtain ⟨a, c, rfl, hcells⟩ := h
 have HM := Hy hcells
 obtain ⟨n, hn⟩ : ∃ n, T.length = n := ⟨_, rfl⟩
 have HL := Hy hn
 have HY := Hy (any_at (l := T) (q := fun t => !tyL t.1))
 have HN := Hy (any_no (l := T) (q := fun t => !tyL t.1))
 obtain ⟨R, hR⟩ : ∃ R, (T.any fun t => !tyL t.1) = R := ⟨_, rfl⟩
 rw [hR] at HY HN ⊢
 rw [hn] at hl ⊢
 clear hcells hn hR
 go_enter Tryz.func174, Tryz.ntmps174
 go_wp2
 go_loopw [8] (fun v wr => ∃ k : Nat, k <= n /\ v = .int .i64 (k : Nat) /\ Below w.heap.size w wr /\ ∀ j (hj : j < T.length), j < k -> (!tyL T[j].1) = false) (fun v _ => n - (intOf v).toNat)
 case atStart => exact ⟨0, by omega, rfl, Below.refl _ _, fun j _ h => by omega⟩
 case round =>
  obtain ⟨k, hk, rfl, hb, hall⟩ := hrel
  have hsr := hb.size
  by_cases hlt : k < n
  ·have hkl : (k : Int) < (n : Int) := by omega
   have hkm : k < T.length := by rw [HL.out]; exact hlt
   obtain ⟨g, o, rfl, hg, e0w, e1w, e2w⟩ := HM.out k hkm
   have e0 := (hb.cell (p := ⟨g, _, none⟩) hg).trans e0w
   have e1 := (hb.cell (p := ⟨g, _, none⟩) hg).trans e1w
   have e2 := (hb.cell (p := ⟨g, _, none⟩) hg).trans e2w
   obtain ⟨bq, hbq⟩ : ∃ b, (!tyL T[k].1) = b := ⟨_, rfl⟩
   have HYk := Hy (fun hx => HY.out k hkm (by rw [hbq]; exact hx))
   have HA := Hy (fun (hx : bq = false) j (hj : j < T.length) (hjk : j < k + 1) => (show (!tyL T[j].1) = false by
    by_cases hjj : j = k
    ·subst hjj; rw [hbq]; exact hx
    ·exact hall j hj (by omega)))
   obtain ⟨nm, hnm⟩ : ∃ x, T[k].1 = x := ⟨_, rfl⟩
   obtain ⟨rl, hrl⟩ : ∃ x, T[k].2.1 = x := ⟨_, rfl⟩
   obtain ⟨sg, hsg⟩ : ∃ x, T[k].2.2 = x := ⟨_, rfl⟩
   rw [hnm] at e0
   rw [hrl] at e1
   rw [hsg] at e2
   have HF := Hy (fun w => show Calls Tryz.prog 119 #[.agg #[.string ⟨nm.toArray⟩, .int .i64 rl, .bool sg]] w (BB bq w) by have := snp1_any ⟨(T[k].1).toArray⟩ (T[k].2.1) (T[k].2.2) w; rw [<- hnm, <- hrl, <- hsg, <- hbq]; exact this)
   have HB := Hy hb
   clear hb hall e0w e1w e2w hbq hnm hrl hsg
   go_wp2_with fail
   refine (HF.out _).mono ?_
   rintro en w5 ⟨rfl, hb5⟩
   have HB5 := Hy (HB.out.trans (hb5.mono hsr))
   clear hb5 e0 e1 e2
   cases bq
   ·have H := Hy (HA.out rfl)
    go_wp2
    exact ⟨⟨k + 1, by omega, by go_num, HB5.out, H.out⟩, by simp [intOf]; omega⟩
   ·have H := Hy (HYk.out rfl)
    go_wp2
    go_ret
    exact ⟨_, rfl, by rw [H.out]; simp, HB5.out⟩
  ·obtain rfl : k = n := by omega
   have H := Hy (HN.out (fun j hj => hall j hj (by rw [<- HL.out]; exact hj)))
   have HB := Hy hb
   clear hb hall
   go_wp2
   go_ret
   exact ⟨_, rfl, by rw [H.out]; rfl, HB.out⟩
theorem cnT1_any (T : List Ty) (tv : Value) (w : World) (h : TyAt w tv T) (hl : T.length <= 1000000) :
  Calls Tryz.prog 118 #[tv, .func (.func 119) #[] #[]] w (BB (T.any fun t => !tyL t.1) w) := by
 have HC := Hy (cnT1i_any T tv w h hl)
 obtain ⟨a, c, rfl, _⟩ := h
 obtain ⟨R, hR⟩ : ∃ R, (T.any fun t => !tyL t.1) = R := ⟨_, rfl⟩
 rw [hR] at HC ⊢
 clear hR
 go_enter Tryz.func118, Tryz.ntmps118
 go_wp2_with fail
 refine HC.out.mono ?_
 rintro en w1 ⟨n, rfl, hn, hb⟩
 have H := Hy hn
 clear hn
 go_wp2
 go_ret
 exact bB_mk H.out.symm hb
theorem cnT2i_any (T : List Ty) (tv : Value) (w : World) (h : TyAt w tv T) (hl : T.length <= 1000000) :
  Calls Tryz.prog 174 #[tv, .func (.func 121) #[] #[]] w (IxPost (T.any fun t => !okRule t.2.1) w) := by
 obtain ⟨a, c, rfl, hcells⟩ := h
 have HM := Hy hcells
 obtain ⟨n, hn⟩ : ∃ n, T.length = n := ⟨_, rfl⟩
 have HL := Hy hn
 have HY := Hy (any_at (l := T) (q := fun t => !okRule t.2.1))
 have HN := Hy (any_no (l := T) (q := fun t => !okRule t.2.1))
 obtain ⟨R, hR⟩ : ∃ R, (T.any fun t => !okRule t.2.1) = R := ⟨_, rfl⟩
 rw [hR] at HY HN ⊢
 rw [hn] at hl ⊢
 clear hcells hn hR
 go_enter Tryz.func174, Tryz.ntmps174
 go_wp2
 go_loopw [8] (fun v wr => ∃ k : Nat, k <= n /\ v = .int .i64 (k : Nat) /\ Below w.heap.size w wr /\ ∀ j (hj : j < T.length), j < k -> (!okRule T[j].2.1) = false) (fun v _ => n - (intOf v).toNat)
 case atStart => exact ⟨0, by omega, rfl, Below.refl _ _, fun j _ h => by omega⟩
 case round =>
  obtain ⟨k, hk, rfl, hb, hall⟩ := hrel
  have hsr := hb.size
  by_cases hlt : k < n
  ·have hkl : (k : Int) < (n : Int) := by omega
   have hkm : k < T.length := by rw [HL.out]; exact hlt
   obtain ⟨g, o, rfl, hg, e0w, e1w, e2w⟩ := HM.out k hkm
   have e0 := (hb.cell (p := ⟨g, _, none⟩) hg).trans e0w
   have e1 := (hb.cell (p := ⟨g, _, none⟩) hg).trans e1w
   have e2 := (hb.cell (p := ⟨g, _, none⟩) hg).trans e2w
   obtain ⟨bq, hbq⟩ : ∃ b, (!okRule T[k].2.1) = b := ⟨_, rfl⟩
   have HYk := Hy (fun hx => HY.out k hkm (by rw [hbq]; exact hx))
   have HA := Hy (fun (hx : bq = false) j (hj : j < T.length) (hjk : j < k + 1) => (show (!okRule T[j].2.1) = false by
    by_cases hjj : j = k
    ·subst hjj; rw [hbq]; exact hx
    ·exact hall j hj (by omega)))
   obtain ⟨nm, hnm⟩ : ∃ x, T[k].1 = x := ⟨_, rfl⟩
   obtain ⟨rl, hrl⟩ : ∃ x, T[k].2.1 = x := ⟨_, rfl⟩
   obtain ⟨sg, hsg⟩ : ∃ x, T[k].2.2 = x := ⟨_, rfl⟩
   rw [hnm] at e0
   rw [hrl] at e1
   rw [hsg] at e2
   have HF := Hy (fun w => show Calls Tryz.prog 121 #[.agg #[.string ⟨nm.toArray⟩, .int .i64 rl, .bool sg]] w (BB bq w) by have := snp2_any ⟨(T[k].1).toArray⟩ (T[k].2.1) (T[k].2.2) w; rw [<- hnm, <- hrl, <- hsg, <- hbq]; exact this)
   have HB := Hy hb
   clear hb hall e0w e1w e2w hbq hnm hrl hsg
   go_wp2_with fail
   refine (HF.out _).mono ?_
   rintro en w5 ⟨rfl, hb5⟩
   have HB5 := Hy (HB.out.trans (hb5.mono hsr))
   clear hb5 e0 e1 e2
   cases bq
   ·have H := Hy (HA.out rfl)
    go_wp2
    exact ⟨⟨k + 1, by omega, by go_num, HB5.out, H.out⟩, by simp [intOf]; omega⟩
   ·have H := Hy (HYk.out rfl)
    go_wp2
    go_ret
    exact ⟨_, rfl, by rw [H.out]; simp, HB5.out⟩
  ·obtain rfl : k = n := by omega
   have H := Hy (HN.out (fun j hj => hall j hj (by rw [<- HL.out]; exact hj)))
   have HB := Hy hb
   clear hb hall
   go_wp2
   go_ret
   exact ⟨_, rfl, by rw [H.out]; rfl, HB.out⟩
theorem cnT2_any (T : List Ty) (tv : Value) (w : World) (h : TyAt w tv T) (hl : T.length <= 1000000) :
  Calls Tryz.prog 118 #[tv, .func (.func 121) #[] #[]] w (BB (T.any fun t => !okRule t.2.1) w) := by
 have HC := Hy (cnT2i_any T tv w h hl)
 obtain ⟨a, c, rfl, _⟩ := h
 obtain ⟨R, hR⟩ : ∃ R, (T.any fun t => !okRule t.2.1) = R := ⟨_, rfl⟩
 rw [hR] at HC ⊢
 clear hR
 go_enter Tryz.func118, Tryz.ntmps118
 go_wp2_with fail
 refine HC.out.mono ?_
 rintro en w1 ⟨n, rfl, hn, hb⟩
 have H := Hy hn
 clear hn
 go_wp2
 go_ret
 exact bB_mk H.out.symm hb
theorem cnC1i_any (T : List Cl) (tv : Value) (w : World) (h : ClAt w tv T) (hl : T.length <= 1000000) :
  Calls Tryz.prog 176 #[tv, .func (.func 125) #[] #[]] w (IxPost (T.any fun t => !tyL t.1) w) := by
 obtain ⟨a, c, rfl, hcells⟩ := h
 have HM := Hy hcells
 obtain ⟨n, hn⟩ : ∃ n, T.length = n := ⟨_, rfl⟩
 have HL := Hy hn
 have HY := Hy (any_at (l := T) (q := fun t => !tyL t.1))
 have HN := Hy (any_no (l := T) (q := fun t => !tyL t.1))
 obtain ⟨R, hR⟩ : ∃ R, (T.any fun t => !tyL t.1) = R := ⟨_, rfl⟩
 rw [hR] at HY HN ⊢
 rw [hn] at hl ⊢
 clear hcells hn hR
 go_enter Tryz.func176, Tryz.ntmps176
 go_wp2
 go_loopw [8] (fun v wr => ∃ k : Nat, k <= n /\ v = .int .i64 (k : Nat) /\ Below w.heap.size w wr /\ ∀ j (hj : j < T.length), j < k -> (!tyL T[j].1) = false) (fun v _ => n - (intOf v).toNat)
 case atStart => exact ⟨0, by omega, rfl, Below.refl _ _, fun j _ h => by omega⟩
 case round =>
  obtain ⟨k, hk, rfl, hb, hall⟩ := hrel
  have hsr := hb.size
  by_cases hlt : k < n
  ·have hkl : (k : Int) < (n : Int) := by omega
   have hkm : k < T.length := by rw [HL.out]; exact hlt
   obtain ⟨g, o, mu, ma, rfl, hg, e0w, e1w, e2w, _, _, h7, h8⟩ := HM.out k hkm
   obtain ⟨a1, n1, c1, rfl⟩ := slOk_form h7
   obtain ⟨a2, n2, c2, rfl⟩ := slOk_form h8
   have e0 := (hb.cell (p := ⟨g, _, none⟩) hg).trans e0w
   have e1 := (hb.cell (p := ⟨g, _, none⟩) hg).trans e1w
   have e2 := (hb.cell (p := ⟨g, _, none⟩) hg).trans e2w
   obtain ⟨bq, hbq⟩ : ∃ b, (!tyL T[k].1) = b := ⟨_, rfl⟩
   have HYk := Hy (fun hx => HY.out k hkm (by rw [hbq]; exact hx))
   have HA := Hy (fun (hx : bq = false) j (hj : j < T.length) (hjk : j < k + 1) => (show (!tyL T[j].1) = false by
    by_cases hjj : j = k
    ·subst hjj; rw [hbq]; exact hx
    ·exact hall j hj (by omega)))
   obtain ⟨nm, hnm⟩ : ∃ x, T[k].1 = x := ⟨_, rfl⟩
   rw [hnm] at e0
   have HF := Hy (fun w => show Calls Tryz.prog 125 #[.agg #[.string ⟨nm.toArray⟩, .slice a1 n1 c1, .slice a2 n2 c2]] w (BB bq w) by have := snp3_any ⟨(T[k].1).toArray⟩ a1 a2 n1 c1 n2 c2 w; rw [<- hnm, <- hbq]; exact this)
   have HB := Hy hb
   clear hb hall e0w e1w e2w hbq hnm h7 h8
   go_wp2_with fail
   refine (HF.out _).mono ?_
   rintro en w5 ⟨rfl, hb5⟩
   have HB5 := Hy (HB.out.trans (hb5.mono hsr))
   clear hb5 e0 e1 e2
   cases bq
   ·have H := Hy (HA.out rfl)
    go_wp2
    exact ⟨⟨k + 1, by omega, by go_num, HB5.out, H.out⟩, by simp [intOf]; omega⟩
   ·have H := Hy (HYk.out rfl)
    go_wp2
    go_ret
    exact ⟨_, rfl, by rw [H.out]; simp, HB5.out⟩
  ·obtain rfl : k = n := by omega
   have H := Hy (HN.out (fun j hj => hall j hj (by rw [<- HL.out]; exact hj)))
   have HB := Hy hb
   clear hb hall
   go_wp2
   go_ret
   exact ⟨_, rfl, by rw [H.out]; rfl, HB.out⟩
theorem cnC1_any (T : List Cl) (tv : Value) (w : World) (h : ClAt w tv T) (hl : T.length <= 1000000) :
  Calls Tryz.prog 124 #[tv, .func (.func 125) #[] #[]] w (BB (T.any fun t => !tyL t.1) w) := by
 have HC := Hy (cnC1i_any T tv w h hl)
 obtain ⟨a, c, rfl, _⟩ := h
 obtain ⟨R, hR⟩ : ∃ R, (T.any fun t => !tyL t.1) = R := ⟨_, rfl⟩
 rw [hR] at HC ⊢
 clear hR
 go_enter Tryz.func124, Tryz.ntmps124
 go_wp2_with fail
 refine HC.out.mono ?_
 rintro en w1 ⟨n, rfl, hn, hb⟩
 have H := Hy hn
 clear hn
 go_wp2
 go_ret
 exact bB_mk H.out.symm hb
end Go.Proofs.YtpkbgkoocijegaaGreatDoor
namespace Go.Proofs.MemK
open Go Go.RowKit Go.Proofs.BerK
theorem step_pushc {P : Program} {ops : Array Oper} {o : Oper} {a : Act} {w1 : World} {K : Act -> World -> Prop} {Q : Exit -> Act -> World -> Prop} {E : Prop}
  (hgd : o.guard = none) (s x : Operand) (t e : TypeId) (ho : o.op = Op.call { callee := Callee.builtin Builtin.append, args := #[s, x], argTypes := #[t, t] })
  (base size bytes : Nat) (z : Value) (h5 : (P.info? e).map (fun i => (i.zero, i.size, i.bytes)) = some (some z, size, bytes)) (ht : P.underlying t = some (.slice e)) (hzs : z.cells.size = size) (hsz : 0 < size)
  (w : World) (us : List Value) (hw1 : w1 = w.alloc (.cells us.toArray e)) (hul : us.length = 1 * size) (hu : ∀ u ∈ us, u.oneCell' = true)
  (v : Value) (n : Nat) (xs : List Value) (hs : a.eval s = v) (g : Nat) (hx : a.eval x = .slice (some ⟨g, 0, none⟩) 1 1) (hg : g = w.heap.size) (hown : w.ownsRow base e size v n xs)
  (h63 : n + 1 <= maxLen) (hbytes : (n + 1) * bytes <= 140737488355328) (hbase : base <= w.heap.size)
  (h : ∀ v' w', w'.ownsRow base e size v' (n + 1) (xs ++ us) -> Chg (fun k => some k = v.ownBlock) w w' -> (v'.ownBlock = v.ownBlock \/ ∃ k, v'.ownBlock = some k /\ w.heap.size <= k) -> K (a.put o.dst v') w') :
  if Region.wanted o (yielded ops a.tmps) = true then Oper.wp P o a w1 K Q else E := by
 have hw : Region.wanted o (yielded ops a.tmps) = true := by simp [Region.wanted, hgd]
 rw [if_pos hw]
 subst hg hw1
 obtain ⟨i, hi, hz0, hz1, hz2⟩ := info_parts h5
 obtain ⟨v', w', hr, h2, h3, _, h4⟩ := run_append_own_at (P := P) (w.alloc (.cells us.toArray e)) base t o.type e i z size bytes ht hi hz0 hz1 hz2 hzs hsz v n xs (hown.alloc _) ⟨w.heap.size, 0, none⟩ 1 1 us hul (cell_new w us e) hu h63 hbytes (by simp; omega)
 unfold Oper.wp execOp
 simp only [ho, resolve, invoke, builtin, Sem.run_bind, Sem.run_pure, Result.andThen_ok, List.map_toArray, List.map_cons, List.map_nil, hs, hx, hr]
 refine h v' w' h2 (((Chg.refl _ w).alloc _).trans (Chg.ofGrown h3) (fun _ _ h => h)) ?_
 rcases h4 with h4 | h4
 ·exact .inl h4
 ·exact .inr ⟨_, h4, by simp⟩
end Go.Proofs.MemK
namespace Go.Proofs.YtpkbgkoocijegaaGreatDoor
open Go Go.RowKit Go.Proofs.BerK Go.Proofs.MemK Go.Proofs.UtfK
theorem Tryz.sninfo79 : (Tryz.prog.info? 79).map (fun i => (i.zero, i.size, i.bytes)) = some (some (.agg #[.string ByteArray.empty, .int .i64 0, .bool false]), 3, 32) := by kernel_rfl
theorem Tryz.sninfo82 : (Tryz.prog.info? 82).map (fun i => (i.zero, i.size, i.bytes)) = some (some (.agg #[.string ByteArray.empty, .slice none 0 0, .slice none 0 0]), 3, 64) := by kernel_rfl
theorem Tryz.sninfo9 : (Tryz.prog.info? 9).map (fun i => (i.zero, i.size, i.bytes)) = some (some (.string ByteArray.empty), 1, 16) := by kernel_rfl
def tyc (t : Ty) : List Value := [.string ⟨t.1.toArray⟩, .int .i64 t.2.1, .bool t.2.2]
def tycs (T : List Ty) : List Value := T.flatMap tyc
theorem tycs_append (a b : List Ty) : tycs (a ++ b) = tycs a ++ tycs b := by simp [tycs]
theorem tycs_at : ∀ (T : List Ty) (i : Nat) (h : i < T.length), (tycs T)[i * 3]? = some (.string ⟨T[i].1.toArray⟩) /\ (tycs T)[i * 3 + 1]? = some (.int .i64 T[i].2.1) /\ (tycs T)[i * 3 + 2]? = some (.bool T[i].2.2) := by
 intro T
 induction T with
 | nil => intro i h; simp at h
 | cons t T ih =>
  intro i h
  have e : tycs (t :: T) = .string ⟨t.1.toArray⟩ :: .int .i64 t.2.1 :: .bool t.2.2 :: tycs T := rfl
  cases i with
  | zero => rw [e]; exact ⟨rfl, rfl, rfl⟩
  | succ i =>
   have := ih i (by simpa using h)
   rw [e, show (i + 1) * 3 = i * 3 + 1 + 1 + 1 by omega]
   simpa using this
theorem tyAt_owns {w : World} {B : Nat} {v : Value} {T : List Ty} (h : w.ownsRow B 79 3 v T.length (tycs T)) : TyAt w v T := by
 rcases h.2 with ⟨rfl, h0⟩ | ⟨g, cap, cur, rfl, _, hg, _⟩
 ·exact ⟨none, 0, by rw [h0], fun i hi => by omega⟩
 ·refine ⟨_, cap, rfl, fun i hi => ⟨g, 0, rfl, (Array.getElem?_eq_some_iff.1 hg).1, ?_⟩⟩
  obtain ⟨h1, h2, h3⟩ := tycs_at T i hi
  rw [Nat.zero_add]
  exact ⟨(h.cellAt _ (by omega)).trans h1, (h.cellAt _ (by omega)).trans h2, (h.cellAt _ (by omega)).trans h3⟩
def scFT (T : List Ty) : Nat := if nmsL (T.map Prod.fst) ≠ 0 then 13 else if (T.all fun t => okRule t.2.1) = false then 1 else if twcL (T.map Prod.fst) = true then 9 else 0
theorem nms_any {α : Type} (T : List (List UInt8 × α)) : (T.any fun t => !tyL t.1) = decide (nmsL (T.map Prod.fst) ≠ 0) := by
 unfold nmsL
 by_cases h : (T.map Prod.fst).all tyL = true
 ·rw [if_pos h]
  rw [List.all_map, List.all_eq_true] at h
  simp only [ne_eq, not_true_eq_false, decide_false]
  rw [List.any_eq_false]
  intro x hx
  have := h x hx
  simpa using this
 ·rw [if_neg h]
  simp only [ne_eq, Nat.reduceEqDiff, not_false_eq_true, decide_true]
  rw [List.any_eq_true]
  rw [List.all_map] at h
  obtain ⟨x, hx, hq⟩ := List.all_eq_false.1 ((Bool.not_eq_true _).mp h)
  exact ⟨x, hx, by simpa using hq⟩
theorem rule_any (T : List Ty) : (T.any fun t => !okRule t.2.1) = !(T.all fun t => okRule t.2.1) := by
 rw [List.not_all_eq_any_not]
theorem twc_nodup {α : Type} (T : List (List UInt8 × α)) : twcL (T.map Prod.fst) = !decide ((T.map (fun t => lowL t.1)).Nodup) := by
 unfold twcL; rw [List.map_map]; rfl
theorem lowTy_names (T : List Ty) : (T.map lowTy).map (·.1) = T.map (fun t => lowL t.1) := by rw [List.map_map]; rfl
theorem nodup_snoc {N : List (List UInt8)} {s : List UInt8} (h : N.Nodup) (hs : ixL N s = none) : (N ++ [s]).Nodup := by
 rw [List.nodup_append]
 refine ⟨h, by simp, fun a ha b hb e => ?_⟩
 rw [List.mem_singleton] at hb
 subst hb e
 exact ix_none hs ha
theorem nodup_take_not {N : List (List UInt8)} {k : Nat} {s : List UInt8} (hk : k < N.length) (hs : N[k] = s) {i : Nat} (hi : ixL (N.take k) s = some i) : ¬ N.Nodup := by
 intro h
 obtain ⟨hl, he⟩ := ix_some hi
 have hik : i < k := by have := hl; simp at this; omega
 have := (List.pairwise_iff_getElem.1 h) i k (by omega) hk hik
 rw [List.getElem_take] at he
 exact this (he.trans hs.symm)
def FillT (T : List Ty) (g : Nat) (w : World) (en : Ending) (w' : World) : Prop :=
 en = .returned (.int .i64 (scFT T : Nat)) /\ Chg (fun k => k = g) w w' /\ (scFT T = 0 -> ∃ mv a n c, w'.heap[g]? = some (.cells #[mv, .slice a n c, .map none, .slice none 0 0] 133 (0, 0)) /\ NmAt w' mv ((T.map lowTy).map (·.1)) /\ TyAt w' (.slice a n c) (T.map lowTy) /\ ∀ j o, a = some ⟨j, o, none⟩ -> w.heap.size <= j)
theorem row_ne_map {w : World} {B b : Nat} {e : TypeId} {size : Nat} {v : Value} {n : Nat} {xs : List Value} {N : List (List UInt8)} (h : w.ownsRow B e size v n xs) (hm : NmAt w (.map (some b)) N) : ∀ j, v.ownBlock = some j -> j ≠ b := by
 intro j hj
 rcases h.2 with ⟨rfl, _⟩ | ⟨g, cap, cur, rfl, _, hg, _⟩
 ·cases hj
 ·injection hj with hj
  have hj : g = j := hj
  subst hj
  exact fun e => nmAt_ne hm hg e.symm
theorem fillT_mk {T : List Ty} {g : Nat} {w w' : World} {n : Nat} (h : scFT T = n) (hn : n ≠ 0) (hc : Chg (fun k => k = g) w w') : FillT T g w (.returned (.int .i64 (n : Nat))) w' := by
 subst h; exact ⟨rfl, hc, fun h => absurd h hn⟩
theorem fillT_any (T : List Ty) (tv : Value) (g : Nat) (w0 w : World) (h : TyAt w0 tv T) (hb0 : Below w0.heap.size w0 w) (hgl : w0.heap.size <= g) (hl : T.length <= 1024) (hbt : ∀ t ∈ T, t.1.length <= 140737488355328)
  (hg : w.heap[g]? = some (.cells #[.map none, .slice none 0 0, .map none, .slice none 0 0] 133 (0, 0))) :
  Calls Tryz.prog 69 #[.pointer (some ⟨g, 0, none⟩), tv] w (FillT T g w) := by
 have hA := tyAt_below h hb0
 have HC1 := Hy (cnT1_any T tv w hA (by omega))
 have HC2 := Hy (fun w1 (hb : Below w.heap.size w w1) => cnT2_any T tv w1 (tyAt_below hA hb) (by omega))
 rw [nms_any] at HC1
 rw [rule_any] at HC2
 clear hA
 obtain ⟨a, c, rfl, hcells⟩ := h
 have HM := Hy hcells
 have HB0 := Hy hb0
 have HBt := Hy hbt
 have HG := Hy hg
 have hgs := obj_lt hg
 have hsw := hb0.size
 obtain ⟨n, hn⟩ : ∃ n, T.length = n := ⟨_, rfl⟩
 have HL := Hy hn
 obtain ⟨F, hF⟩ : ∃ F, scFT T = F := ⟨_, rfl⟩
 have hF' := hF
 unfold scFT at hF'
 by_cases h1 : nmsL (T.map Prod.fst) ≠ 0
 ·rw [if_pos h1] at hF'
  rw [decide_eq_true h1] at HC1
  have HF := Hy (hF.trans hF'.symm)
  clear hcells hb0 hbt hg hn hF hF' h1
  go_enter Tryz.func69, Tryz.ntmps69
  go_wp2_with fail
  refine HC1.out.mono ?_
  rintro en w1 ⟨rfl, hb⟩
  have HB := Hy hb
  clear hb
  go_wp2
  go_ret
  exact fillT_mk HF.out (by decide) (Chg.ofBelow HB.out)
 rw [if_neg h1] at hF'
 rw [decide_eq_false h1] at HC1
 by_cases h2 : (T.all fun t => okRule t.2.1) = false
 ·rw [if_pos h2] at hF'
  rw [h2] at HC2
  have HF := Hy (hF.trans hF'.symm)
  clear hcells hb0 hbt hg hn hF hF' h1 h2
  go_enter Tryz.func69, Tryz.ntmps69
  go_wp2_with fail
  refine HC1.out.mono ?_
  rintro en w1 ⟨rfl, hb⟩
  have HB := Hy hb
  clear hb
  go_wp2_with fail
  refine (HC2.out _ HB.out).mono ?_
  rintro en w2 ⟨rfl, hb⟩
  have HB2 := Hy (HB.out.trans (hb.mono HB.out.size))
  clear hb
  go_wp2
  go_ret
  exact fillT_mk HF.out (by decide) (Chg.ofBelow HB2.out)
 rw [if_neg h2] at hF'
 rw [(Bool.not_eq_false _).mp h2] at HC2
 rw [twc_nodup] at hF'
 obtain ⟨TL, hTL⟩ : ∃ TL, T.map lowTy = TL := ⟨_, rfl⟩
 have hTLl : TL.length = n := by rw [<- hTL]; simpa using hn
 have hNM : T.map (fun t => lowL t.1) = TL.map (·.1) := by rw [<- hTL, lowTy_names]
 rw [hNM] at hF'
 have HD := Hy (show ¬ (TL.map (·.1)).Nodup -> F = 9 by intro h; rw [<- hF', decide_eq_false h]; rfl)
 have HO := Hy (show (TL.map (·.1)).Nodup -> F = 0 by intro h; rw [<- hF', decide_eq_true h]; rfl)
 have HFF := Hy hF
 have HTL := Hy hTL
 have HTLl := Hy hTLl
 rw [hn] at hl HC1 HC2 ⊢
 clear hcells hb0 hbt hg hn hF hF' h1 h2 hTL hTLl hNM
 go_enter Tryz.func69, Tryz.ntmps69
 go_wp2_with fail
 refine HC1.out.mono ?_
 rintro en w1 ⟨rfl, hb⟩
 have HB := Hy hb
 clear hb
 go_wp2_with fail
 refine (HC2.out _ HB.out).mono ?_
 rintro en w2 ⟨rfl, hb⟩
 have HB2 := Hy (HB.out.trans (hb.mono HB.out.size))
 clear hb
 have hs2 := HB2.out.size
 go_wp2
 go_loopw [13] (fun v wr => ∃ (k : Nat) (mv rv : Value), k <= n /\ v = .int .i64 (k : Nat) /\ wr.heap[g]? = some (.cells #[mv, rv, .map none, .slice none 0 0] 133 (0, 0)) /\ NmAt wr mv ((TL.take k).map (·.1)) /\ wr.ownsRow w.heap.size 79 3 rv k (tycs (TL.take k)) /\
   (∀ b, mv = .map (some b) -> w.heap.size <= b) /\ ((TL.take k).map (·.1)).Nodup /\ Chg (fun k => k = g) w wr) (fun v _ => n - (intOf v).toNat)
 case atStart => exact ⟨0, .map none, .slice none 0 0, by omega, rfl, obj_below HG.out HB2.out hgs, nmAt_nil _, ⟨rfl, .inl ⟨rfl, rfl⟩⟩, fun b h => (by cases h), by simp, Chg.ofBelow HB2.out⟩
 case round =>
  obtain ⟨k, mv, rv, hk, rfl, hgr, hnm, hrow, hmb, hnd, hch⟩ := hrel
  have hsr := hch.size
  by_cases hlt : k < n
  ·have hkl : (k : Int) < (n : Int) := by omega
   have hkm : k < T.length := by rw [HL.out]; exact hlt
   have hb0r : Below w0.heap.size w0 wr := HB0.out.trans (hch.toBelow hsw (fun j _ h => by rw [h]; exact hgl))
   obtain ⟨g1, o1, rfl, hg1, e0w, e1w, e2w⟩ := HM.out k hkm
   have e0 := (hb0r.cell (p := ⟨g1, _, none⟩) hg1).trans e0w
   have e1 := (hb0r.cell (p := ⟨g1, _, none⟩) hg1).trans e1w
   have e2 := (hb0r.cell (p := ⟨g1, _, none⟩) hg1).trans e2w
   have hbd := HBt.out _ (List.getElem_mem hkm)
   have hkL : k < TL.length := by rw [HTLl.out]; exact hlt
   have hTk : TL[k] = (lowL T[k].1, T[k].2) := by
    have := HTL.out
    subst this
    simp [lowTy]
   obtain ⟨nm, hnmk⟩ : ∃ x, T[k].1 = x := ⟨_, rfl⟩
   obtain ⟨rl, hrl⟩ : ∃ x, T[k].2.1 = x := ⟨_, rfl⟩
   obtain ⟨sg, hsg⟩ : ∃ x, T[k].2.2 = x := ⟨_, rfl⟩
   rw [hnmk] at e0 hbd hTk
   rw [hrl] at e1
   rw [hsg] at e2
   have HLo := Hy (fun w => show Calls Tryz.prog 74 #[.string ⟨nm.toArray⟩] w (StrPost (lowL nm) w) from lower_any ⟨nm.toArray⟩ w)
   have hLl : (lowL nm).length <= 140737488355328 := by simpa [lowL] using hbd
   obtain ⟨LX, hLX⟩ : ∃ x, lowL nm = x := ⟨_, rfl⟩
   rw [hLX] at HLo hTk hLl
   have hTk' : TL[k] = (LX, rl, sg) := by rw [hTk, <- hrl, <- hsg]
   obtain ⟨ra, rc, rfl⟩ := ownsRow_slice hrow
   have hTs : TL.take (k + 1) = TL.take k ++ [(LX, rl, sg)] := by rw [List.take_succ_eq_append_getElem hkL, hTk']
   have HT := Hy (An hTs (An hTk' hkL))
   have HI := Hy (An hgr (An hnm (An hrow (An hmb (An hnd (An hch hb0r))))))
   have hgrs := obj_lt hgr
   have HLL := Hy hLl
   clear hgr hnm hrow hmb hnd hch hb0r e0w e1w e2w hnmk hrl hsg hLX hbd hTk hTk' hTs hLl
   go_wp2_with fail
   refine (HLo.out _).mono ?_
   rintro en w5 ⟨rfl, hb5⟩
   obtain ⟨y0, hb5r⟩ := box3s hb5
   have hs5 := hb5r.size
   have hs5' : wr.heap.size < w5.heap.size := obj_lt y0
   obtain ⟨b0, b1, b2⟩ := obj3 y0
   have f0 := obj_free y0 0
   have gg := obj_below HI.out.1 hb5r hgrs
   have HY := Hy (An y0 (An gg (An (nmAt_below HI.out.2.1 hb5r) (An (ownsRow_below HI.out.2.2.1 hb5r) hb5r))))
   clear y0 hb5 hb5r gg e0 e1 e2
   go_wp2
   obtain ⟨W6, hW6⟩ : ∃ W6, w5.setCell ⟨wr.heap.size, 0, none⟩ (.string ⟨LX.toArray⟩) = W6 := ⟨_, rfl⟩
   have ch56 : Chg (fun k => k = wr.heap.size) w5 W6 := by rw [<- hW6]; exact (Chg.refl (fun k => k = wr.heap.size) w5).setCell (p := ⟨wr.heap.size, 0, none⟩) (fun _ => rfl) _
   have y1 : W6.heap[wr.heap.size]? = some (.cells #[.string ⟨LX.toArray⟩, .int .i64 rl, .bool sg] 79 (0, 0)) := by rw [<- hW6]; exact obj_set HY.out.1 0 _
   have gg := obj_chg HY.out.2.1 ch56 (by show ¬ g = wr.heap.size; omega)
   have nm6 := nmAt_chg HY.out.2.2.1 ch56 (fun b hb => by subst hb; exact nmAt_ne HY.out.2.2.1 HY.out.1)
   have row6 := ownsRow_chg HY.out.2.2.2.1 ch56 (fun j hj => by have := (HI.out.2.2.1.lt j hj).2; show ¬ j = wr.heap.size; omega)
   have ch6 : Chg (fun k => k = g) w W6 := (HI.out.2.2.2.2.2.1.below (HY.out.2.2.2.2.mono hsr)).trans ch56 (fun i hi h => by omega)
   have hs6 := ch56.size
   rw [hW6]
   clear hW6 b0 b1 b2 f0
   obtain ⟨c0, c1, c2⟩ := obj3 y1
   have c0' : W6.drew.cell? ⟨wr.heap.size, 0, none⟩ = _ := c0
   go_still_tail 5, (by kernel_rfl)
   change wpList _ _ _ _ _ W6.drew
   have HZ := Hy (An y1 (An gg (An nm6 (An row6 (An ch6 hs6)))))
   clear y1 gg nm6 row6 ch6 hs6 c0 c1 c2 c0' ch56
   go_wp2_with fail
   refine (add_any g 0 #[mv, .slice ra k rc, .map none, .slice none 0 0] 133 mv ((TL.take k).map (·.1)) LX W6.drew HZ.out.2.1 rfl (nmAt_chg (S := fun _ => False) HZ.out.2.2.1 (Chg.refl _ W6).drew (fun _ _ h => h)) (by simp; omega) HLL.out).mono ?_
   rintro en w8 ⟨hhit, hnew⟩
   have HAd := Hy (An hhit hnew)
   clear hhit hnew
   have HkN := Hy (show ((TL.map (·.1))[k]'(by simpa using HT.out.2.2)) = LX by simp [HT.out.2.1])
   cases hq : ixL ((TL.take k).map (·.1)) LX with
   | some i =>
    obtain ⟨rfl, rfl⟩ := HAd.out.1 i hq
    have HQ := Hy (HD.out (nodup_take_not (by simpa using HT.out.2.2) HkN.out (by rw [<- List.map_take]; exact hq)))
    clear hq
    go_wp2
    go_ret
    exact fillT_mk (HFF.out.trans HQ.out) (by decide) HZ.out.2.2.2.2.1.drew
   | none =>
    obtain ⟨b, rfl, g8, nm8, hmb, ch8⟩ := HAd.out.2 hq
    have g8' : w8.heap[g]? = some (.cells #[.map (some b), .slice ra k rc, .map none, .slice none 0 0] 133 (0, 0)) := g8
    have hHne : ∀ j, mv = .map (some j) -> j ≠ wr.heap.size := fun j hj => by have h3 := HZ.out.2.2.1; subst hj; exact nmAt_ne h3 HZ.out.1
    have y8 := obj_chg (w := W6.drew) HZ.out.1 ch8 (by rintro (h | h); · omega
                                                       · exact hHne _ h rfl)
    have row8 := ownsRow_chg (w := W6.drew) (ownsRow_heap HZ.out.2.2.2.1 rfl) ch8 (fun j hj => by
     rintro (h | h)
     ·have := (HI.out.2.2.1.lt j hj).1; omega
     ·have h3 := HZ.out.2.2.1
      subst h
      exact row_ne_map HZ.out.2.2.2.1 h3 j hj rfl)
    have ch9 : Chg (fun k => k = g) w w8 := HZ.out.2.2.2.2.1.drew.trans ch8 (fun i hi h => by
     rcases h with h | h
     ·exact h
     ·have := HI.out.2.2.2.1 _ h; omega)
    have hmb9 : w.heap.size <= b := by
     rcases hmb with h | ⟨_, h⟩
     ·exact HI.out.2.2.2.1 _ h
     ·have h4 := HZ.out.2.2.2.2.2
      have h5 : W6.heap.size <= b := h
      omega
    have nd9 := nodup_snoc HI.out.2.2.2.2.1 hq
    have hs8 := ch8.size
    have hs8' : W6.heap.size <= w8.heap.size := hs8
    have hsz8 : w.heap.size <= w8.heap.size := ch9.size
    have hgw : g < w8.heap.size := obj_lt g8'
    obtain ⟨d0, d1, d2⟩ := obj3 y8
    have p1 := (obj4 g8').2.1
    have H8 := Hy (An g8' (An nm8 (An row8 (An ch9 (An hmb9 nd9)))))
    have hyl : wr.heap.size < w8.heap.size := obj_lt y8
    have HRg := Hy (show ∀ j, (Value.slice ra k rc).ownBlock = some j -> j ≠ g from fun j hj => by have := (row8.lt j hj).1; omega)
    clear g8 g8' nm8 hmb ch8 hHne y8 row8 ch9 hmb9 nd9 hq hs8
    go_wp2
    go_region_law (refine step_pushc rfl (.tmp 32) (.tmp 34) 31 79 rfl w.heap.size 3 32 _ Tryz.sninfo79 Tryz.underlying31 rfl (by decide) w8.drew [_, _, _] rfl rfl (by intro u hu; simp at hu; rcases hu with rfl | rfl | rfl <;> rfl) (.slice ra k rc) k (tycs (TL.take k)) rfl _ rfl rfl (ownsRow_heap H8.out.2.2.1 rfl) (by unfold maxLen; omega) (by omega) hsz8 ?_; intro v' w' h1 h2 h3; obtain ⟨na, nc, rfl⟩ := ownsRow_slice h1; have g9 := obj_chg (w := w8.drew) H8.out.1 h2 (fun e => HRg.out _ e.symm rfl); have q1 := obj_free g9 1; have q2 := (obj4 g9).2.1)
    all_goals
     have hs9 := h2.size
     have hs9' : w8.heap.size <= w'.heap.size := hs9
     have g9s := obj_set g9 1 (.slice na (k + 1) nc)
     have ch10 : Chg (fun j => j = g) w (w'.setCell ⟨g, 1, none⟩ (.slice na (k + 1) nc)) := (H8.out.2.2.2.1.drew.trans h2 (fun i hi h => by have := (H8.out.2.2.1.lt i h.symm).1; omega)).setCell (p := ⟨g, 1, none⟩) (fun _ => rfl) _
     have chS : Chg (fun j => j = g) w' (w'.setCell ⟨g, 1, none⟩ (.slice na (k + 1) nc)) := (Chg.refl (fun j => j = g) w').setCell (p := ⟨g, 1, none⟩) (fun _ => rfl) _
     have nm10 := nmAt_chg (nmAt_chg (w := w8.drew) (nmAt_chg (S := fun _ => False) H8.out.2.1 (Chg.refl _ w8).drew (fun _ _ h => h)) h2 (fun j hj e => by injection hj with hj; injection hj with hj; exact row_ne_map H8.out.2.2.1 H8.out.2.1 j e.symm hj.symm)) chS (fun j hj e => by injection hj with hj; injection hj with hj; have e' : j = g := e; have := H8.out.2.2.2.2.1; omega)
     have row10 := ownsRow_chg h1 chS (fun j hj e => by have := (h1.lt j hj).1; omega)
     have HE := Hy (An g9s (An nm10 (An row10 ch10)))
     clear g9 q1 q2 h1 h2 h3 hs9 hs9' g9s ch10 chS nm10 row10
     go_wp2
     refine ⟨⟨k + 1, .map (some b), .slice na (k + 1) nc, by omega, by go_num, HE.out.1, ?_, ?_, fun j hj => by injection hj with hj; injection hj with hj; rw [<- hj]; exact H8.out.2.2.2.2.1, ?_, HE.out.2.2.2⟩, by simp [intOf]; omega⟩
     ·rw [HT.out.1, List.map_append]; exact HE.out.2.1
     ·rw [HT.out.1, tycs_append]; exact HE.out.2.2.1
     ·rw [HT.out.1, List.map_append]; exact H8.out.2.2.2.2.2
  ·obtain rfl : k = n := by omega
   have hTe : TL.take k = TL := List.take_of_length_le (by rw [HTLl.out]; exact Nat.le_refl _)
   rw [hTe] at hnm hrow hnd
   obtain ⟨ra, rc, rfl⟩ := ownsRow_slice hrow
   have H := Hy (An hgr (An hnm (An hrow (An (HO.out hnd) hch))))
   clear hgr hnm hrow hnd hch hTe hmb
   go_wp2
   go_ret
   have e0 : scFT T = 0 := HFF.out.trans H.out.2.2.2.1
   refine ⟨by rw [e0]; rfl, H.out.2.2.2.2, fun _ => ⟨mv, ra, k, rc, H.out.1, by rw [HTL.out]; exact H.out.2.1, ?_, fun j o e => (H.out.2.2.1.lt j (by rw [e]; rfl)).1⟩⟩
   rw [HTL.out]
   have hr := H.out.2.2.1
   have hk := HTLl.out
   subst hk
   exact tyAt_owns hr
def LwS (l : List (List UInt8)) (w : World) (en : Ending) (w' : World) : Prop :=
 ∃ g c, en = .returned (.slice (some ⟨g, 0, none⟩) l.length c) /\ w'.ownsRow w.heap.size 9 1 (.slice (some ⟨g, 0, none⟩) l.length c) l.length (sc l) /\ Below w.heap.size w w' /\ w.heap.size <= g
theorem snlower_any (ms : List (List UInt8)) (v : Value) (w : World) (hl : ms.length <= 1000000) (hm : TxR w v ms) :
  Calls Tryz.prog 126 #[v] w (LwS (ms.map lowL) w) := by
 obtain ⟨a, c, rfl, hcells⟩ := hm
 have HM := Hy hcells
 obtain ⟨L, hL⟩ : ∃ L, ms.map lowL = L := ⟨_, rfl⟩
 have hLl : L.length = ms.length := by rw [<- hL]; simp
 have HL := Hy hL
 rw [hL]
 obtain ⟨n, hn⟩ : ∃ n, ms.length = n := ⟨_, rfl⟩
 have HN := Hy hn
 rw [hn] at hl hLl ⊢
 have HLl := Hy hLl
 obtain ⟨i0, hi, hz0, hz1, hz2⟩ := info_parts Tryz.sninfo9
 have HI := Hy hi
 have HZ0 := Hy hz0
 have HZ1 := Hy hz1
 have HZ2 := Hy hz2
 clear hi hz0 hz1 hz2 hcells hL hn
 go_enter Tryz.func126, Tryz.ntmps126
 go_wp2_with (at_make; refine wpList_make_full _ rfl _ _ 43 rfl w.heap.size 9 i0 (.string ByteArray.empty) 1 Tryz.underlying43 HI.out HZ0.out HZ1.out _ _ _ _ n rfl rfl ?e1 ?e2 ?b0 ?b1 ?b2 ?_)
 case e1 => rfl
 case e2 => rfl
 case b0 => rw [HZ2.out]; omega
 case b1 => unfold maxLen; omega
 case b2 => exact Nat.le_refl _
 intro w3 hown3 hg3
 have hb3 : Below w.heap.size w w3 := (Below.refl _ _).grown hg3 (Nat.le_refl _) (fun k hk => by cases hk)
 have e0 := preS_0 L
 rw [hLl] at e0
 rw [<- e0] at hown3
 have hs3 : w.heap.size <= w3.heap.size := hb3.size
 have HX := Hy hb3
 clear e0 hg3 hb3
 go_wp2
 go_loopw [11] (fun v wr => ∃ i : Nat, i <= n /\ v = .int .i64 (i : Nat) /\ wr.ownsRow w.heap.size 9 1 (.slice (some ⟨w.heap.size, 0, none⟩) n n) n (sc (preS L i)) /\ Below w.heap.size w wr) (fun v _ => n - (intOf v).toNat)
 case atStart => exact ⟨0, by omega, rfl, hown3, HX.out⟩
 case round =>
  obtain ⟨i, hi, rfl, hown, hb⟩ := hrel
  have hsr : w.heap.size <= wr.heap.size := hb.size
  by_cases hlt : i < n
  ·have hil : (i : Int) < (n : Int) := by omega
   have hims : i < ms.length := by rw [HN.out]; exact hlt
   obtain ⟨g, o, rfl, hg, e1w⟩ := HM.out i hims
   have e1 := (hb.cell (p := ⟨g, o + i, none⟩) hg).trans e1w
   have hiL : i < L.length := by rw [hLl]; exact hlt
   have hLi : L[i] = lowL ms[i] := by
    have := HL.out
    subst this
    simp
   have hset := preS_set L i hiL
   have hat := preS_at L i hiL
   rw [hLi] at hset
   obtain ⟨m, hmm⟩ : ∃ m, ms[i] = m := ⟨_, rfl⟩
   rw [hmm] at e1 hset
   have HLo := Hy (fun w => show Calls Tryz.prog 74 #[.string ⟨m.toArray⟩] w (StrPost (lowL m) w) from lower_any ⟨m.toArray⟩ w)
   obtain ⟨LM, hLM⟩ : ∃ x, lowL m = x := ⟨_, rfl⟩
   rw [hLM] at HLo hset
   have H := Hy (An hown (An hb (An hset hat)))
   clear hown hb hset hat hLi hmm hLM e1w
   go_wp2_with fail
   refine (HLo.out _).mono ?_
   rintro e w5 ⟨rfl, hb5⟩
   have hown5 := ownsRow_below H.out.1 hb5
   have c0 := (hown5.cellAt i (by omega)).trans H.out.2.2.2
   have f0 := hown5.frozenAt i
   have H5 := Hy (An hown5 (H.out.2.1.trans (hb5.mono hsr)))
   clear hown5 hb5
   go_wp2
   refine ⟨⟨i + 1, by omega, by go_num, ?_, ?_⟩, by simp [intOf]; omega⟩
   ·have h7 := (H5.out.1.stored i (.string ⟨LM.toArray⟩)).1
    rw [H.out.2.2.1] at h7
    exact h7
   ·exact H5.out.2.setCell (p := ⟨w.heap.size, i, none⟩) (Nat.le_refl _) _
  ·obtain rfl : i = n := by omega
   have H := Hy (An hown hb)
   clear hown hb
   go_wp2
   go_ret
   have ho := H.out.1
   rw [<- hLl, preS_all] at ho
   exact ⟨w.heap.size, L.length, by rw [hLl]; rfl, ho, H.out.2, Nat.le_refl _⟩
def clc (c : List UInt8 × Value × Value) : List Value := [.string ⟨c.1.toArray⟩, c.2.1, c.2.2]
def clcs (L : List (List UInt8 × Value × Value)) : List Value := L.flatMap clc
theorem clcs_append (a b : List (List UInt8 × Value × Value)) : clcs (a ++ b) = clcs a ++ clcs b := by simp [clcs]
theorem clcs_at : ∀ (L : List (List UInt8 × Value × Value)) (i : Nat) (h : i < L.length), (clcs L)[i * 3]? = some (.string ⟨L[i].1.toArray⟩) /\ (clcs L)[i * 3 + 1]? = some L[i].2.1 /\ (clcs L)[i * 3 + 2]? = some L[i].2.2 := by
 intro L
 induction L with
 | nil => intro i h; simp at h
 | cons c L ih =>
  intro i h
  have e : clcs (c :: L) = .string ⟨c.1.toArray⟩ :: c.2.1 :: c.2.2 :: clcs L := rfl
  cases i with
  | zero => rw [e]; exact ⟨rfl, rfl, rfl⟩
  | succ i =>
   have := ih i (by simpa using h)
   rw [e, show (i + 1) * 3 = i * 3 + 1 + 1 + 1 by omega]
   simpa using this
def StrBlk (w : World) (j : Nat) : Prop := ∃ cur, w.heap[j]? = some (.cells cur 9 (0, 0))
theorem strBlk_row {w : World} {B : Nat} {v : Value} {n : Nat} {xs : List Value} (h : w.ownsRow B 9 1 v n xs) : ∀ j, v.ownBlock = some j -> B <= j /\ StrBlk w j := by
 intro j hj
 rcases h.2 with ⟨rfl, _⟩ | ⟨g, cap, cur, rfl, hb, hg, _⟩
 ·cases hj
 ·injection hj with hj
  have hj : g = j := hj
  subst hj
  exact ⟨hb, cur, hg⟩
def ClOne (w : World) (B : Nat) (c : Cl) (q : List UInt8 × Value × Value) : Prop :=
 q.1 = c.1 /\ ∃ g1 c1 g2 c2, q.2.1 = .slice (some ⟨g1, 0, none⟩) c.2.1.length c1 /\ q.2.2 = .slice (some ⟨g2, 0, none⟩) c.2.2.length c2 /\ w.ownsRow B 9 1 q.2.1 c.2.1.length (sc c.2.1) /\ w.ownsRow B 9 1 q.2.2 c.2.2.length (sc c.2.2)
theorem clOne_chg {S : Nat -> Prop} {w w' : World} {B : Nat} {c : Cl} {q : List UInt8 × Value × Value} (h : ClOne w B c q) (hc : Chg S w w') (hs : ∀ g, B <= g -> StrBlk w g -> ¬ S g) : ClOne w' B c q := by
 obtain ⟨h0, g1, c1, g2, c2, e1, e2, t1, t2⟩ := h
 exact ⟨h0, g1, c1, g2, c2, e1, e2, ownsRow_chg t1 hc (fun j hj => hs j (strBlk_row t1 j hj).1 (strBlk_row t1 j hj).2), ownsRow_chg t2 hc (fun j hj => hs j (strBlk_row t2 j hj).1 (strBlk_row t2 j hj).2)⟩
def ClAll (w : World) (B : Nat) (C : List Cl) (L : List (List UInt8 × Value × Value)) : Prop := L.length = C.length /\ ∀ i (h1 : i < C.length) (h2 : i < L.length), ClOne w B C[i] L[i]
theorem clAll_nil (w : World) (B : Nat) : ClAll w B [] [] := ⟨rfl, fun i h => by simp at h⟩
theorem clAll_chg {S : Nat -> Prop} {w w' : World} {B : Nat} {C : List Cl} {L : List (List UInt8 × Value × Value)} (h : ClAll w B C L) (hc : Chg S w w') (hs : ∀ g, B <= g -> StrBlk w g -> ¬ S g) : ClAll w' B C L :=
 ⟨h.1, fun i h1 h2 => clOne_chg (h.2 i h1 h2) hc hs⟩
theorem clAll_snoc {w : World} {B : Nat} {C : List Cl} {L : List (List UInt8 × Value × Value)} {c : Cl} {q : List UInt8 × Value × Value} (h : ClAll w B C L) (h1 : ClOne w B c q) : ClAll w B (C ++ [c]) (L ++ [q]) := by
 refine ⟨by simp [h.1], fun i i1 i2 => ?_⟩
 by_cases hi : i < C.length
 ·rw [List.getElem_append_left hi, List.getElem_append_left (by rw [h.1]; exact hi)]
  exact h.2 i hi _
 ·have : i = C.length := by simp at i1; omega
  subst this
  have e : L.length = C.length := h.1
  simp only [List.getElem_append_right (Nat.le_refl C.length), Nat.sub_self, List.getElem_cons_zero]
  rw [List.getElem_append_right (by omega)]
  simp [e, h1]
theorem clAt_owns {w : World} {B : Nat} {v : Value} {C : List Cl} {L : List (List UInt8 × Value × Value)} (h : w.ownsRow B 82 3 v C.length (clcs L)) (hc : ClAll w B C L) : ClAt w v C := by
 rcases h.2 with ⟨rfl, h0⟩ | ⟨g, cap, cur, rfl, _, hg, _⟩
 ·exact ⟨none, 0, by rw [h0], fun i hi => by omega⟩
 ·refine ⟨_, cap, rfl, fun i hi => ?_⟩
  have hl : i < L.length := by rw [hc.1]; exact hi
  obtain ⟨h0, g1, c1, g2, c2, e1, e2, t1, t2⟩ := hc.2 i hi hl
  obtain ⟨a1, a2, a3⟩ := clcs_at L i hl
  refine ⟨g, 0, L[i].2.1, L[i].2.2, rfl, (Array.getElem?_eq_some_iff.1 hg).1, ?_⟩
  rw [Nat.zero_add]
  exact ⟨(h.cellAt _ (by omega)).trans (by rw [a1, h0]), (h.cellAt _ (by omega)).trans a2, (h.cellAt _ (by omega)).trans a3, txR_owns t1, txR_owns t2, .inr ⟨_, _, _, e1⟩, .inr ⟨_, _, _, e2⟩⟩
theorem strBlk_ne_map {w : World} {b j : Nat} {N : List (List UInt8)} (hm : NmAt w (.map (some b)) N) (h : StrBlk w j) : j ≠ b := by
 obtain ⟨cur, h⟩ := h
 exact fun e => nmAt_ne hm h e.symm
theorem strBlk_ne_row {w : World} {B : Nat} {size : Nat} {v : Value} {n : Nat} {xs : List Value} (hr : w.ownsRow B 82 size v n xs) {j : Nat} (h : StrBlk w j) : v.ownBlock ≠ some j := by
 intro hj
 obtain ⟨cur, h⟩ := h
 rcases hr.2 with ⟨rfl, _⟩ | ⟨g, cap, cur', rfl, hb, hg, _⟩
 ·cases hj
 ·injection hj with hj
  have hj : g = j := hj
  subst hj
  rw [h] at hg
  cases hg
def scFC (C : List Cl) : Nat := if nmsL (C.map Prod.fst) ≠ 0 then 13 else if twcL (C.map Prod.fst) = true then 9 else 0
theorem lowCl_names (T : List Cl) : (T.map lowCl).map (·.1) = T.map (fun t => lowL t.1) := by rw [List.map_map]; rfl
def FillC (C : List Cl) (g : Nat) (m1 v1 : Value) (w : World) (en : Ending) (w' : World) : Prop :=
 en = .returned (.int .i64 (scFC C : Nat)) /\ Chg (fun k => k = g) w w' /\ (scFC C = 0 -> ∃ mv a n c, w'.heap[g]? = some (.cells #[m1, v1, mv, .slice a n c] 133 (0, 0)) /\ NmAt w' mv ((C.map lowCl).map (·.1)) /\ ClAt w' (.slice a n c) (C.map lowCl))
theorem fillC_mk {C : List Cl} {g : Nat} {m1 v1 : Value} {w w' : World} {n : Nat} (h : scFC C = n) (hn : n ≠ 0) (hc : Chg (fun k => k = g) w w') : FillC C g m1 v1 w (.returned (.int .i64 (n : Nat))) w' := by
 subst h; exact ⟨rfl, hc, fun h => absurd h hn⟩
def RowC (LX : List UInt8) (MA MB : List (List UInt8)) (wr wx : World) : Prop :=
 ∃ gA cA gB cB, wx.heap[wr.heap.size]? = some (.cells #[.string ⟨LX.toArray⟩, .slice (some ⟨gA, 0, none⟩) MA.length cA, .slice (some ⟨gB, 0, none⟩) MB.length cB] 82 (0, 0)) /\ Below wr.heap.size wr wx /\
  wx.ownsRow wr.heap.size 9 1 (.slice (some ⟨gA, 0, none⟩) MA.length cA) MA.length (sc MA) /\ wx.ownsRow wr.heap.size 9 1 (.slice (some ⟨gB, 0, none⟩) MB.length cB) MB.length (sc MB)
theorem snchg_set3 (g : Nat) (w : World) (a b c : Value) : Chg (fun k => k = g) w (((w.setCell ⟨g, 0, none⟩ a).setCell ⟨g, 1, none⟩ b).setCell ⟨g, 2, none⟩ c) :=
 (((Chg.refl (fun k => k = g) w).setCell (p := ⟨g, 0, none⟩) (fun _ => rfl) _).setCell (p := ⟨g, 1, none⟩) (fun _ => rfl) _).setCell (p := ⟨g, 2, none⟩) (fun _ => rfl) _
theorem rowC_mk {LX : List UInt8} {MA MB : List (List UInt8)} {wr W0 w5 w6 w7 : World} {a b c : Value} {gA cA gB cB : Nat} (hb00 : Below wr.heap.size wr W0) (z0 : wr.heap.size < W0.heap.size) (y0 : W0.heap[wr.heap.size]? = some (.cells #[a, b, c] 82 (0, 0)))
  (hbW : Below W0.heap.size W0 w7) (h5 : W0.heap.size <= w5.heap.size) (h6 : W0.heap.size <= w6.heap.size)
  (rA : w7.ownsRow w5.heap.size 9 1 (.slice (some ⟨gA, 0, none⟩) MA.length cA) MA.length (sc MA)) (rB : w7.ownsRow w6.heap.size 9 1 (.slice (some ⟨gB, 0, none⟩) MB.length cB) MB.length (sc MB)) :
  RowC LX MA MB wr (((w7.setCell ⟨wr.heap.size, 0, none⟩ (.string ⟨LX.toArray⟩)).setCell ⟨wr.heap.size, 1, none⟩ (.slice (some ⟨gA, 0, none⟩) MA.length cA)).setCell ⟨wr.heap.size, 2, none⟩ (.slice (some ⟨gB, 0, none⟩) MB.length cB)) := by
 have y7 := obj_below y0 hbW z0
 refine ⟨gA, cA, gB, cB, obj_set3 y7 _ _ _, below_set3 (hb00.trans (hbW.mono (Nat.le_of_lt z0))) (Nat.le_refl _) _ _ _, ?_, ?_⟩
 ·refine ownsRow_chg (ownsRow_base rA (by omega)) (snchg_set3 _ _ _ _ _) (fun j hj => ?_)
  have := (rA.lt j hj).1
  show ¬ j = _
  omega
 ·refine ownsRow_chg (ownsRow_base rB (by omega)) (snchg_set3 _ _ _ _ _) (fun j hj => ?_)
  have := (rB.lt j hj).1
  show ¬ j = _
  omega
theorem fillC_any (T : List Cl) (tv : Value) (g : Nat) (m1 v1 : Value) (w0 w : World) (h : ClAt w0 tv T) (hb0 : Below w0.heap.size w0 w) (hgl : w0.heap.size <= g) (hl : T.length <= 1024) (hbt : ∀ t ∈ T, t.1.length <= 140737488355328)
  (hlm : ∀ t ∈ T, t.2.1.length <= 1000000 /\ t.2.2.length <= 1000000)
  (hg : w.heap[g]? = some (.cells #[m1, v1, .map none, .slice none 0 0] 133 (0, 0))) :
  Calls Tryz.prog 70 #[.pointer (some ⟨g, 2, none⟩), tv] w (FillC T g m1 v1 w) := by
 have hA := clAt_below h hb0
 have HC1 := Hy (cnC1_any T tv w hA (by omega))
 rw [nms_any] at HC1
 clear hA
 obtain ⟨a, c, rfl, hcells⟩ := h
 have HM := Hy hcells
 have HB0 := Hy hb0
 have HBt := Hy hbt
 have HBm := Hy hlm
 have HG := Hy hg
 have hgs := obj_lt hg
 have hsw := hb0.size
 obtain ⟨n, hn⟩ : ∃ n, T.length = n := ⟨_, rfl⟩
 have HL := Hy hn
 obtain ⟨F, hF⟩ : ∃ F, scFC T = F := ⟨_, rfl⟩
 have hF' := hF
 unfold scFC at hF'
 by_cases h1 : nmsL (T.map Prod.fst) ≠ 0
 ·rw [if_pos h1] at hF'
  rw [decide_eq_true h1] at HC1
  have HF := Hy (hF.trans hF'.symm)
  clear hcells hb0 hbt hg hn hF hF' h1 hlm
  go_enter Tryz.func70, Tryz.ntmps70
  go_wp2_with fail
  refine HC1.out.mono ?_
  rintro en w1 ⟨rfl, hb⟩
  have HB := Hy hb
  clear hb
  go_wp2
  go_ret
  exact fillC_mk HF.out (by decide) (Chg.ofBelow HB.out)
 rw [if_neg h1] at hF'
 rw [decide_eq_false h1] at HC1
 rw [twc_nodup] at hF'
 obtain ⟨TL, hTL⟩ : ∃ TL, T.map lowCl = TL := ⟨_, rfl⟩
 have hTLl : TL.length = n := by rw [<- hTL]; simpa using hn
 have hNM : T.map (fun t => lowL t.1) = TL.map (·.1) := by rw [<- hTL, lowCl_names]
 rw [hNM] at hF'
 have HD := Hy (show ¬ (TL.map (·.1)).Nodup -> F = 9 by intro h; rw [<- hF', decide_eq_false h]; rfl)
 have HO := Hy (show (TL.map (·.1)).Nodup -> F = 0 by intro h; rw [<- hF', decide_eq_true h]; rfl)
 have HFF := Hy hF
 have HTL := Hy hTL
 have HTLl := Hy hTLl
 rw [hn] at hl HC1 ⊢
 clear hcells hb0 hbt hg hn hF hF' h1 hTL hTLl hNM hlm
 go_enter Tryz.func70, Tryz.ntmps70
 go_wp2_with fail
 refine HC1.out.mono ?_
 rintro en w2 ⟨rfl, hb⟩
 have HB2 := Hy hb
 clear hb
 have hs2 := HB2.out.size
 go_wp2
 go_loopw [11] (fun v wr => ∃ (k : Nat) (mv rv : Value) (L : List (List UInt8 × Value × Value)), k <= n /\ v = .int .i64 (k : Nat) /\ wr.heap[g]? = some (.cells #[m1, v1, mv, rv] 133 (0, 0)) /\ NmAt wr mv ((TL.take k).map (·.1)) /\ wr.ownsRow w.heap.size 82 3 rv k (clcs L) /\
   ClAll wr w.heap.size (TL.take k) L /\ (∀ b, mv = .map (some b) -> w.heap.size <= b) /\ ((TL.take k).map (·.1)).Nodup /\ Chg (fun k => k = g) w wr) (fun v _ => n - (intOf v).toNat)
 case atStart => exact ⟨0, .map none, .slice none 0 0, [], by omega, rfl, obj_below HG.out HB2.out hgs, nmAt_nil _, ⟨rfl, .inl ⟨rfl, rfl⟩⟩, clAll_nil _ _, fun b h => (by cases h), by simp, Chg.ofBelow HB2.out⟩
 case round =>
  obtain ⟨k, mv, rv, L, hk, rfl, hgr, hnm, hrow, hall, hmb, hnd, hch⟩ := hrel
  have hsr := hch.size
  by_cases hlt : k < n
  ·have hkl : (k : Int) < (n : Int) := by omega
   have hkm : k < T.length := by rw [HL.out]; exact hlt
   have hb0r : Below w0.heap.size w0 wr := HB0.out.trans (hch.toBelow hsw (fun j _ h => by rw [h]; exact hgl))
   obtain ⟨g1, o1, mu, ma, rfl, hg1, e0w, e1w, e2w, tmu, tma, smu, sma⟩ := HM.out k hkm
   obtain ⟨a1, n1, c1, rfl⟩ := slOk_form smu
   obtain ⟨a2, n2, c2, rfl⟩ := slOk_form sma
   have e0 := (hb0r.cell (p := ⟨g1, _, none⟩) hg1).trans e0w
   have e1 := (hb0r.cell (p := ⟨g1, _, none⟩) hg1).trans e1w
   have e2 := (hb0r.cell (p := ⟨g1, _, none⟩) hg1).trans e2w
   have hbd := HBt.out _ (List.getElem_mem hkm)
   have hbm := HBm.out _ (List.getElem_mem hkm)
   have hkL : k < TL.length := by rw [HTLl.out]; exact hlt
   have hTk : TL[k] = (lowL T[k].1, T[k].2.1.map lowL, T[k].2.2.map lowL) := by
    have := HTL.out
    subst this
    simp [lowCl]
   obtain ⟨nm, hnmk⟩ : ∃ x, T[k].1 = x := ⟨_, rfl⟩
   obtain ⟨MU, hMU⟩ : ∃ x, T[k].2.1 = x := ⟨_, rfl⟩
   obtain ⟨MA, hMA⟩ : ∃ x, T[k].2.2 = x := ⟨_, rfl⟩
   rw [hnmk] at e0 hbd hTk
   rw [hMU] at tmu hbm hTk
   rw [hMA] at tma hbm hTk
   have HLo := Hy (fun w => show Calls Tryz.prog 74 #[.string ⟨nm.toArray⟩] w (StrPost (lowL nm) w) from lower_any ⟨nm.toArray⟩ w)
   have hLl : (lowL nm).length <= 140737488355328 := by simpa [lowL] using hbd
   have HLu := Hy (fun w' (hb : Below wr.heap.size wr w') => snlower_any MU (.slice a1 n1 c1) w' hbm.1 (txR_below (txR_below tmu hb0r) hb))
   have HLa := Hy (fun w' (hb : Below wr.heap.size wr w') => snlower_any MA (.slice a2 n2 c2) w' hbm.2 (txR_below (txR_below tma hb0r) hb))
   obtain ⟨LX, hLX⟩ : ∃ x, lowL nm = x := ⟨_, rfl⟩
   obtain ⟨LU, hLU⟩ : ∃ x, MU.map lowL = x := ⟨_, rfl⟩
   obtain ⟨LA, hLA⟩ : ∃ x, MA.map lowL = x := ⟨_, rfl⟩
   rw [hLX] at HLo hTk hLl
   rw [hLU] at HLu hTk
   rw [hLA] at HLa hTk
   obtain ⟨ra, rc, rfl⟩ := ownsRow_slice hrow
   have hTs : TL.take (k + 1) = TL.take k ++ [(LX, LU, LA)] := by rw [List.take_succ_eq_append_getElem hkL, hTk]
   have HT := Hy (An hTs (An hTk hkL))
   have HI := Hy (An hgr (An hnm (An hrow (An hmb (An hnd (An hch (An hb0r hall)))))))
   have hgrs := obj_lt hgr
   have HLL := Hy hLl
   clear hgr hnm hrow hmb hnd hch hb0r e0w e1w e2w hnmk hbd hTk hTs hLl hMU hMA hLX hLU hLA hbm tmu tma smu sma hall
   go_upto_region 6 with (fail)
   clear e0 e1 e2
   go_cut [6, 11] from 11 to 42 (fun s6 s11 wx => s6 = .pointer (some ⟨wr.heap.size, 0, none⟩) /\ s11 = .int .i64 (k : Nat) /\ RowC LX LU LA wr wx)
   case first =>
    obtain ⟨W0, hW0⟩ : ∃ W0, wr.alloc (.cells #[.string ⟨nm.toArray⟩, .slice a1 n1 c1, .slice a2 n2 c2] 82) = W0 := ⟨_, rfl⟩
    have y0 : W0.heap[wr.heap.size]? = some (.cells #[.string ⟨nm.toArray⟩, .slice a1 n1 c1, .slice a2 n2 c2] 82 (0, 0)) := by rw [<- hW0]; exact heap_alloc_new wr _
    have hb00 : Below wr.heap.size wr W0 := by rw [<- hW0]; exact (Below.refl _ wr).alloc (Nat.le_refl _) _
    rw [hW0]
    clear hW0
    have z0 : wr.heap.size < W0.heap.size := obj_lt y0
    obtain ⟨d0, d1, d2⟩ := obj3 y0
    have k0 := obj_free y0 0
    have k1 := obj_free y0 1
    have k2 := obj_free y0 2
    have e0 : W0.drew.cell? ⟨wr.heap.size, 0, none⟩ = _ := d0
    have e1 : W0.drew.cell? ⟨wr.heap.size, 1, none⟩ = _ := d1
    have e2 : W0.drew.cell? ⟨wr.heap.size, 2, none⟩ = _ := d2
    have HY := Hy y0
    clear y0
    go_region_law (first
     | (go_simp; go_at_call 74; (with_reducible refine (HLo.out _).mono ?_); rintro en w5 ⟨rfl, hb5⟩; have hbW : Below W0.heap.size W0 w5 := (by first | exact hbW.trans (hb5.mono hbW.size) | exact (Below.refl _ W0).drew.trans hb5); have e0 := (hbW.cell (p := ⟨wr.heap.size, 0, none⟩) z0).trans d0; have e1 := (hbW.cell (p := ⟨wr.heap.size, 1, none⟩) z0).trans d1; have e2 := (hbW.cell (p := ⟨wr.heap.size, 2, none⟩) z0).trans d2; have f0 := (hbW.frozen (p := ⟨wr.heap.size, 0, none⟩) z0).trans k0; have f1 := (hbW.frozen (p := ⟨wr.heap.size, 1, none⟩) z0).trans k1; have f2 := (hbW.frozen (p := ⟨wr.heap.size, 2, none⟩) z0).trans k2)
     | (go_simp; go_at_call 126; (with_reducible refine (HLu.out _ (hb00.trans (hbW.mono (Nat.le_of_lt z0)))).mono ?_); rintro en w6 ⟨gA, cA, rfl, rA, hb6, gA0⟩; have hbW := hbW.trans (hb6.mono hbW.size); have e0 := (hbW.cell (p := ⟨wr.heap.size, 0, none⟩) z0).trans d0; have e1 := (hbW.cell (p := ⟨wr.heap.size, 1, none⟩) z0).trans d1; have e2 := (hbW.cell (p := ⟨wr.heap.size, 2, none⟩) z0).trans d2; have f0 := (hbW.frozen (p := ⟨wr.heap.size, 0, none⟩) z0).trans k0; have f1 := (hbW.frozen (p := ⟨wr.heap.size, 1, none⟩) z0).trans k1; have f2 := (hbW.frozen (p := ⟨wr.heap.size, 2, none⟩) z0).trans k2)
     | (go_simp; go_at_call 126; (with_reducible refine (HLa.out _ (hb00.trans (hbW.mono (Nat.le_of_lt z0)))).mono ?_); rintro en w7 ⟨gB, cB, rfl, rB, hb7, gB0⟩; have hbW := hbW.trans (hb7.mono hbW.size); have rA := ownsRow_below rA hb7; have e0 := (hbW.cell (p := ⟨wr.heap.size, 0, none⟩) z0).trans d0; have e1 := (hbW.cell (p := ⟨wr.heap.size, 1, none⟩) z0).trans d1; have e2 := (hbW.cell (p := ⟨wr.heap.size, 2, none⟩) z0).trans d2; have f0 := (hbW.frozen (p := ⟨wr.heap.size, 0, none⟩) z0).trans k0; have f1 := (hbW.frozen (p := ⟨wr.heap.size, 1, none⟩) z0).trans k1; have f2 := (hbW.frozen (p := ⟨wr.heap.size, 2, none⟩) z0).trans k2))
    all_goals
     have hs5 : W0.heap.size <= w5.heap.size := hb5.size
     have hs6 : W0.heap.size <= w6.heap.size := Nat.le_trans hs5 hb6.size
     have HR := Hy (rowC_mk (LX := LX) (MA := LU) (MB := LA) hb00 z0 HY.out hbW hs5 hs6 rA rB)
     clear hbW rA rB
     go_wp2_with fail
     go_meet
     exact ⟨rfl, rfl, HR.out⟩
   case rest =>
    obtain ⟨rfl, rfl, hR⟩ := hcut
    obtain ⟨gA, cA, gB, cB, y1, hb5r, rA, rB⟩ := hR
    have gg := obj_below HI.out.1 hb5r hgrs
    have nm6 := nmAt_below HI.out.2.1 hb5r
    have row6 := ownsRow_below HI.out.2.2.1 hb5r
    have ch6 : Chg (fun k => k = g) w wc := HI.out.2.2.2.2.2.1.below (hb5r.mono hsr)
    have all6 : ClAll wc w.heap.size (TL.take k) L := clAll_chg HI.out.2.2.2.2.2.2.2 (Chg.ofBelow (S := fun _ => False) hb5r) (fun _ _ _ h => h)
    have hs6 := hb5r.size
    obtain ⟨c0, c1', c2'⟩ := obj3 y1
    have c0' : wc.drew.cell? ⟨wr.heap.size, 0, none⟩ = _ := c0
    have hyl0 : wr.heap.size < wc.heap.size := obj_lt y1
    have HZ := Hy (An y1 (An gg (An nm6 (An row6 (An ch6 (An hs6 (An all6 (An (ownsRow_base rA hsr) (ownsRow_base rB hsr)))))))))
    clear y1 gg nm6 row6 ch6 all6 rA rB hb5r
    go_wp2
    go_still_tail 5, (by kernel_rfl)
    change wpList _ _ _ _ _ wc.drew
    clear c0 c1' c2' c0'
    go_wp2_with fail
    refine (add_any g 2 #[m1, v1, mv, .slice ra k rc] 133 mv ((TL.take k).map (·.1)) LX wc.drew HZ.out.2.1 rfl (nmAt_chg (S := fun _ => False) HZ.out.2.2.1 (Chg.refl _ wc).drew (fun _ _ h => h)) (by simp; omega) HLL.out).mono ?_
    rintro en w8 ⟨hhit, hnew⟩
    have HAd := Hy (An hhit hnew)
    clear hhit hnew
    have HkN := Hy (show ((TL.map (·.1))[k]'(by simpa using HT.out.2.2)) = LX by simp [HT.out.2.1])
    cases hq : ixL ((TL.take k).map (·.1)) LX with
    | some i =>
     obtain ⟨rfl, rfl⟩ := HAd.out.1 i hq
     have HQ := Hy (HD.out (nodup_take_not (by simpa using HT.out.2.2) HkN.out (by rw [<- List.map_take]; exact hq)))
     clear hq
     go_wp2
     go_ret
     exact fillC_mk (HFF.out.trans HQ.out) (by decide) HZ.out.2.2.2.2.1.drew
    | none =>
     obtain ⟨b, rfl, g8, nm8, hmb, ch8⟩ := HAd.out.2 hq
     have g8' : w8.heap[g]? = some (.cells #[m1, v1, .map (some b), .slice ra k rc] 133 (0, 0)) := g8
     have hHne : ∀ j, mv = .map (some j) -> j ≠ wr.heap.size := fun j hj => by have h3 := HZ.out.2.2.1; subst hj; exact nmAt_ne h3 HZ.out.1
     have hSm : ∀ j, w.heap.size <= j -> StrBlk wc.drew j -> ¬ (fun k => k = g \/ mv = .map (some k)) j := fun j hj hs => by
      rintro (h | h)
      ·omega
      ·have h3 := HZ.out.2.2.1
       subst h
       exact strBlk_ne_map h3 hs rfl
     have y8 := obj_chg (w := wc.drew) HZ.out.1 ch8 (by
      rintro (h | h)
      ·omega
      ·exact hHne _ h rfl)
     have row8 := ownsRow_chg (w := wc.drew) (ownsRow_heap HZ.out.2.2.2.1 rfl) ch8 (fun j hj => by
      rintro (h | h)
      ·have := (HI.out.2.2.1.lt j hj).1; omega
      ·have h3 := HZ.out.2.2.1
       subst h
       exact row_ne_map HZ.out.2.2.2.1 h3 j hj rfl)
     have all8 : ClAll w8 w.heap.size (TL.take k) L := clAll_chg (w := wc.drew) (clAll_chg HZ.out.2.2.2.2.2.2.1 ((Chg.refl (fun _ => False) wc).drew) (fun _ _ _ h => h)) ch8 hSm
     have rA8 := ownsRow_chg (w := wc.drew) (ownsRow_heap HZ.out.2.2.2.2.2.2.2.1 rfl) ch8 (fun j hj => hSm j (strBlk_row HZ.out.2.2.2.2.2.2.2.1 j hj).1 (strBlk_row HZ.out.2.2.2.2.2.2.2.1 j hj).2)
     have rB8 := ownsRow_chg (w := wc.drew) (ownsRow_heap HZ.out.2.2.2.2.2.2.2.2 rfl) ch8 (fun j hj => hSm j (strBlk_row HZ.out.2.2.2.2.2.2.2.2 j hj).1 (strBlk_row HZ.out.2.2.2.2.2.2.2.2 j hj).2)
     have ch9 : Chg (fun k => k = g) w w8 := HZ.out.2.2.2.2.1.drew.trans ch8 (fun i hi h => by
      rcases h with h | h
      ·exact h
      ·have := HI.out.2.2.2.1 _ h; omega)
     have hmb9 : w.heap.size <= b := by
      rcases hmb with h | ⟨_, h⟩
      ·exact HI.out.2.2.2.1 _ h
      ·have h5 : wc.heap.size <= b := h
       omega
     have nd9 := nodup_snoc HI.out.2.2.2.2.1 hq
     have hs8 := ch8.size
     have hs8' : wc.heap.size <= w8.heap.size := hs8
     have hsz8 : w.heap.size <= w8.heap.size := ch9.size
     have hgw : g < w8.heap.size := obj_lt g8'
     obtain ⟨d0, d1, d2⟩ := obj3 y8
     have p1 := (obj4 g8').2.2.2
     have hyl : wr.heap.size < w8.heap.size := obj_lt y8
     have HRg := Hy (show ∀ j, (Value.slice ra k rc).ownBlock = some j -> j ≠ g from fun j hj => by have := (row8.lt j hj).1; omega)
     have H8 := Hy (An g8' (An nm8 (An row8 (An ch9 (An hmb9 (An nd9 (An all8 (An rA8 rB8))))))))
     clear g8 g8' nm8 hmb ch8 hHne y8 row8 ch9 hmb9 nd9 hq hs8 all8 rA8 rB8 hSm
     go_wp2
     go_region_law (refine step_pushc rfl (.tmp 36) (.tmp 38) 32 82 rfl w.heap.size 3 64 _ Tryz.sninfo82 Tryz.underlying32 rfl (by decide) w8.drew [_, _, _] rfl rfl (by intro u hu; simp at hu; rcases hu with rfl | rfl | rfl <;> rfl) (.slice ra k rc) k (clcs L) rfl _ rfl rfl (ownsRow_heap H8.out.2.2.1 rfl) (by unfold maxLen; omega) (by omega) hsz8 ?_; intro v' w' h1 h2 h3; obtain ⟨na, nc, rfl⟩ := ownsRow_slice h1; have g9 := obj_chg (w := w8.drew) H8.out.1 h2 (fun e => HRg.out _ e.symm rfl); have q1 := obj_free g9 3; have q2 := (obj4 g9).2.2.2)
     all_goals
      have hs9 := h2.size
      have hs9' : w8.heap.size <= w'.heap.size := hs9
      have g9s := obj_set g9 3 (.slice na (k + 1) nc)
      have ch10 : Chg (fun j => j = g) w (w'.setCell ⟨g, 3, none⟩ (.slice na (k + 1) nc)) := (H8.out.2.2.2.1.drew.trans h2 (fun i hi h => by have := (H8.out.2.2.1.lt i h.symm).1; omega)).setCell (p := ⟨g, 3, none⟩) (fun _ => rfl) _
      have chS : Chg (fun j => j = g) w' (w'.setCell ⟨g, 3, none⟩ (.slice na (k + 1) nc)) := (Chg.refl (fun j => j = g) w').setCell (p := ⟨g, 3, none⟩) (fun _ => rfl) _
      have nm10 := nmAt_chg (nmAt_chg (w := w8.drew) (nmAt_chg (S := fun _ => False) H8.out.2.1 (Chg.refl _ w8).drew (fun _ _ h => h)) h2 (fun j hj e => by injection hj with hj; injection hj with hj; exact row_ne_map H8.out.2.2.1 H8.out.2.1 j e.symm hj.symm)) chS (fun j hj e => by injection hj with hj; injection hj with hj; have e' : j = g := e; have := H8.out.2.2.2.2.1; omega)
      have row10 := ownsRow_chg h1 chS (fun j hj e => by have := (h1.lt j hj).1; omega)
      have hB2 : ∀ j, w.heap.size <= j -> StrBlk w8.drew j -> ¬ (fun k_1 => some k_1 = (Value.slice ra k rc).ownBlock) j := fun j _ hs e => strBlk_ne_row H8.out.2.2.1 hs e.symm
      have hB3 : ∀ j, w.heap.size <= j -> StrBlk w' j -> ¬ (fun k_1 => k_1 = g) j := fun j hj _ e => by have e' : j = g := e; omega
      have all10 := clAll_chg (clAll_chg (w := w8.drew) (clAll_chg H8.out.2.2.2.2.2.2.1 ((Chg.refl (fun _ => False) w8).drew) (fun _ _ _ h => h)) h2 hB2) chS hB3
      have rA9 := ownsRow_chg (w := w8.drew) (ownsRow_heap H8.out.2.2.2.2.2.2.2.1 rfl) h2 (fun j hj => hB2 j (strBlk_row H8.out.2.2.2.2.2.2.2.1 j hj).1 (strBlk_row H8.out.2.2.2.2.2.2.2.1 j hj).2)
      have rB9 := ownsRow_chg (w := w8.drew) (ownsRow_heap H8.out.2.2.2.2.2.2.2.2 rfl) h2 (fun j hj => hB2 j (strBlk_row H8.out.2.2.2.2.2.2.2.2 j hj).1 (strBlk_row H8.out.2.2.2.2.2.2.2.2 j hj).2)
      have rA10 := ownsRow_chg rA9 chS (fun j hj => hB3 j (strBlk_row rA9 j hj).1 (strBlk_row rA9 j hj).2)
      have rB10 := ownsRow_chg rB9 chS (fun j hj => hB3 j (strBlk_row rB9 j hj).1 (strBlk_row rB9 j hj).2)
      have all11 := clAll_snoc all10 (show ClOne _ w.heap.size (LX, LU, LA) (LX, .slice (some ⟨gA, 0, none⟩) LU.length cA, .slice (some ⟨gB, 0, none⟩) LA.length cB) from ⟨rfl, gA, cA, gB, cB, rfl, rfl, rA10, rB10⟩)
      have HE := Hy (An g9s (An nm10 (An row10 (An ch10 all11))))
      clear g9 q1 q2 h1 h2 h3 hs9 hs9' g9s ch10 chS nm10 row10 hB2 hB3 all10 rA9 rB9 rA10 rB10 all11
      go_wp2
      refine ⟨⟨k + 1, .map (some b), .slice na (k + 1) nc, L ++ [(LX, .slice (some ⟨gA, 0, none⟩) LU.length cA, .slice (some ⟨gB, 0, none⟩) LA.length cB)], by omega, by go_num, HE.out.1, ?_, ?_, ?_, fun j hj => by injection hj with hj; injection hj with hj; rw [<- hj]; exact H8.out.2.2.2.2.1, ?_, HE.out.2.2.2.1⟩, by simp [intOf]; omega⟩
      ·rw [HT.out.1, List.map_append]; exact HE.out.2.1
      ·rw [clcs_append]; exact HE.out.2.2.1
      ·rw [HT.out.1]; exact HE.out.2.2.2.2
      ·rw [HT.out.1, List.map_append]; exact H8.out.2.2.2.2.2.1
  ·obtain rfl : k = n := by omega
   have hTe : TL.take k = TL := List.take_of_length_le (by rw [HTLl.out]; exact Nat.le_refl _)
   rw [hTe] at hnm hnd hall
   obtain ⟨ra, rc, rfl⟩ := ownsRow_slice hrow
   have H := Hy (An hgr (An hnm (An hrow (An (HO.out hnd) (An hch hall)))))
   clear hgr hnm hrow hnd hch hTe hmb hall
   go_wp2
   go_ret
   have e0 : scFC T = 0 := HFF.out.trans H.out.2.2.2.1
   refine ⟨by rw [e0]; rfl, H.out.2.2.2.2.1, fun _ => ⟨mv, ra, k, rc, H.out.1, by rw [HTL.out]; exact H.out.2.1, ?_⟩⟩
   rw [HTL.out]
   have hr := H.out.2.2.1
   have hk := HTLl.out
   subst hk
   exact clAt_owns hr H.out.2.2.2.2.2
def ScAt (w : World) (g : Nat) (T : List Ty) (C : List Cl) : Prop :=
 ∃ m1 a1 n1 c1 m2 a2 n2 c2, w.heap[g]? = some (.cells #[m1, .slice a1 n1 c1, m2, .slice a2 n2 c2] 133 (0, 0)) /\ NmAt w m1 (T.map (·.1)) /\ TyAt w (.slice a1 n1 c1) T /\ NmAt w m2 (C.map (·.1)) /\ ClAt w (.slice a2 n2 c2) C
theorem scAt_below {w w' : World} {g : Nat} {T : List Ty} {C : List Cl} (h : ScAt w g T C) (hb : Below w.heap.size w w') : ScAt w' g T C := by
 obtain ⟨m1, a1, n1, c1, m2, a2, n2, c2, h1, h2, h3, h4, h5⟩ := h
 exact ⟨m1, a1, n1, c1, m2, a2, n2, c2, obj_below h1 hb (obj_lt h1), nmAt_below h2 hb, tyAt_below h3 hb, nmAt_below h4 hb, clAt_below h5 hb⟩
theorem scAt_lt {w : World} {g : Nat} {T : List Ty} {C : List Cl} (h : ScAt w g T C) : g < w.heap.size := by
 obtain ⟨m1, a1, n1, c1, m2, a2, n2, c2, h1, _⟩ := h
 exact obj_lt h1
theorem plV_some (i : Nat) : plV (some i) = .tuple #[.int .i64 (i : Nat), .bool true] := rfl
theorem plV_none : plV none = .tuple #[.int .i64 0, .bool false] := rfl
theorem snno_any (s : List UInt8) (b g : Nat) (T : List Ty) (C : List Cl) (w : World) (hb : w.cell? ⟨b, 0, none⟩ = some (.pointer (some ⟨g, 0, none⟩))) (h : ScAt w g T C) (hs : s.length <= 140737488355328) :
  Calls Tryz.prog 127 #[.string ⟨s.toArray⟩, .pointer (some ⟨b, 0, none⟩)] w (PureB (!inL (T.map (·.1)) s) w) := by
 obtain ⟨m1, a1, n1, c1, m2, a2, n2, c2, h1, h2, _⟩ := h
 have HP := Hy (place_any g 0 m1 (T.map (·.1)) s w (obj4 h1).1 h2 hs)
 cases hq : ixL (T.map (·.1)) s with
 | none =>
  rw [hq] at HP
  have H := Hy (ix_out hq)
  clear h1 h2 hq
  go_enter Tryz.func127, Tryz.ntmps127
  go_wp2_with fail
  refine HP.out.mono ?_
  rintro en w1 ⟨rfl, rfl⟩
  rw [plV_none]
  go_wp2
  go_ret
  exact pureB_mk (by rw [H.out]; rfl)
 | some i =>
  rw [hq] at HP
  have H := Hy (ix_in hq)
  clear h1 h2 hq
  go_enter Tryz.func127, Tryz.ntmps127
  go_wp2_with fail
  refine HP.out.mono ?_
  rintro en w1 ⟨rfl, rfl⟩
  rw [plV_some]
  go_wp2
  go_ret
  exact pureB_mk (by rw [H.out]; rfl)
def IxP (b : Bool) (w : World) (en : Ending) (w' : World) : Prop := ∃ n : Int, en = .returned (.int .i64 n) /\ decide (0 <= n) = b /\ w = w'
theorem snnoi_any (l : List (List UInt8)) (v : Value) (b g : Nat) (T : List Ty) (C : List Cl) (w : World) (hl : l.length <= 1000000) (ht : TxR w v l) (hb : w.cell? ⟨b, 0, none⟩ = some (.pointer (some ⟨g, 0, none⟩))) (h : ScAt w g T C) (hs : ∀ s ∈ l, s.length <= 140737488355328) :
  Calls Tryz.prog 153 #[v, .func (.func 127) #[] #[.pointer (some ⟨b, 0, none⟩)]] w (IxP (l.any fun s => !inL (T.map (·.1)) s) w) := by
 have HC := Hy (fun s (hs : s.length <= 140737488355328) => snno_any s b g T C w hb h hs)
 obtain ⟨N, hN⟩ : ∃ N, T.map (·.1) = N := ⟨_, rfl⟩
 rw [hN] at HC ⊢
 obtain ⟨a, c, rfl, hcells⟩ := ht
 have HM := Hy hcells
 have HS := Hy hs
 obtain ⟨n, hn⟩ : ∃ n, l.length = n := ⟨_, rfl⟩
 have HL := Hy hn
 have HY := Hy (any_at (l := l) (q := fun s => !inL N s))
 have HN := Hy (any_no (l := l) (q := fun s => !inL N s))
 obtain ⟨R, hR⟩ : ∃ R, (l.any fun s => !inL N s) = R := ⟨_, rfl⟩
 rw [hR] at HY HN ⊢
 rw [hn] at hl ⊢
 clear hcells hn hR hs hb h hN
 go_enter Tryz.func153, Tryz.ntmps153
 go_wp2
 go_loop [8] (fun v => ∃ k : Nat, k <= n /\ v = .int .i64 (k : Nat) /\ ∀ j (hj : j < l.length), j < k -> (!inL N l[j]) = false) (fun v => n - (intOf v).toNat)
 case atStart => exact ⟨0, by omega, rfl, fun j _ h => by omega⟩
 case round =>
  obtain ⟨k, hk, rfl, hall⟩ := hrel
  by_cases hlt : k < n
  ·have hkl : (k : Int) < (n : Int) := by omega
   have hkm : k < l.length := by rw [HL.out]; exact hlt
   obtain ⟨g1, o1, rfl, hg1, e0⟩ := HM.out k hkm
   have HF := Hy (HC.out _ (HS.out _ (List.getElem_mem hkm)))
   obtain ⟨bq, hbq⟩ : ∃ b, (!inL N l[k]) = b := ⟨_, rfl⟩
   have HYk := Hy (fun hx => HY.out k hkm (by rw [hbq]; exact hx))
   have HA := Hy (fun (hx : bq = false) j (hj : j < l.length) (hjk : j < k + 1) => (show (!inL N l[j]) = false by
    by_cases hjj : j = k
    ·subst hjj; rw [hbq]; exact hx
    ·exact hall j hj (by omega)))
   rw [hbq] at HF
   obtain ⟨s, hsk⟩ : ∃ x, l[k] = x := ⟨_, rfl⟩
   rw [hsk] at e0 HF
   clear hall hbq hsk
   go_wp2_with fail
   refine HF.out.mono ?_
   rintro en w5 ⟨rfl, hw⟩
   obtain rfl := hw.symm
   cases bq
   ·have H := Hy (HA.out rfl)
    go_wp2
    exact ⟨⟨k + 1, by omega, by go_num, H.out⟩, by simp [intOf]; omega⟩
   ·have H := Hy (HYk.out rfl)
    go_wp2
    go_ret
    exact ⟨_, rfl, by rw [H.out]; simp, rfl⟩
  ·obtain rfl : k = n := by omega
   have H := Hy (HN.out (fun j hj => hall j hj (by rw [<- HL.out]; exact hj)))
   clear hall
   go_wp2
   go_ret
   exact ⟨_, rfl, by rw [H.out]; rfl, rfl⟩
theorem snnoc_any (l : List (List UInt8)) (v : Value) (b g : Nat) (T : List Ty) (C : List Cl) (w : World) (hl : l.length <= 1000000) (ht : TxR w v l) (hb : w.cell? ⟨b, 0, none⟩ = some (.pointer (some ⟨g, 0, none⟩))) (h : ScAt w g T C) (hs : ∀ s ∈ l, s.length <= 140737488355328) :
  Calls Tryz.prog 98 #[v, .func (.func 127) #[] #[.pointer (some ⟨b, 0, none⟩)]] w (PureB (l.any fun s => !inL (T.map (·.1)) s) w) := by
 have HC := Hy (snnoi_any l v b g T C w hl ht hb h hs)
 obtain ⟨R, hR⟩ : ∃ R, (l.any fun s => !inL (T.map (·.1)) s) = R := ⟨_, rfl⟩
 obtain ⟨a, c, rfl, _⟩ := ht
 rw [hR] at HC ⊢
 clear hR hb h hs
 go_enter Tryz.func98, Tryz.ntmps98
 go_wp2_with fail
 refine HC.out.mono ?_
 rintro en w1 ⟨n, rfl, hn, rfl⟩
 have H := Hy hn
 clear hn
 go_wp2
 go_ret
 exact pureB_mk H.out.symm
def objL : List UInt8 := [111, 98, 106, 101, 99, 116, 99, 108, 97, 115, 115]
def misC (N : List (List UInt8)) (c : Cl) : Bool := (c.2.1.any fun s => !inL N s) || (c.2.2.any fun s => !inL N s)
def hasTyB (N : List (List UInt8)) (C : List Cl) : Bool := !(C.any (misC N)) && inL N objL
theorem hasTypes_any (g : Nat) (T : List Ty) (C : List Cl) (w : World) (h : ScAt w g T C) (hl : C.length <= 1000000) (hlm : ∀ c ∈ C, c.2.1.length <= 1000000 /\ c.2.2.length <= 1000000) (hs : ∀ c ∈ C, (∀ s ∈ c.2.1, s.length <= 140737488355328) /\ ∀ s ∈ c.2.2, s.length <= 140737488355328) :
  Calls Tryz.prog 71 #[.pointer (some ⟨g, 0, none⟩)] w (BB (hasTyB (T.map (·.1)) C) w) := by
 have HS := Hy h
 obtain ⟨m1, a1, n1, c1, m2, a2, n2, c2, h1, h2, h3, h4, h5⟩ := id h
 obtain ⟨a, c, hv, hcells⟩ := h5
 injection hv with hv1 hv2 hv3
 subst hv1 hv2 hv3
 have HM := Hy hcells
 have HLm := Hy hlm
 have HLs := Hy hs
 obtain ⟨n, hn⟩ : ∃ n, C.length = n := ⟨_, rfl⟩
 have HL := Hy hn
 rw [hn] at hl h1
 have p3 := (obj4 h1).2.2.2
 have hgl := obj_lt h1
 obtain ⟨W0, hW0⟩ : ∃ W0, w.alloc (.cells #[.pointer (some ⟨g, 0, none⟩)] 29) = W0 := ⟨_, rfl⟩
 have hb0 : Below w.heap.size w W0 := by rw [<- hW0]; exact (Below.refl _ w).alloc (Nat.le_refl _) _
 have x0 : W0.heap[w.heap.size]? = some (.cells #[.pointer (some ⟨g, 0, none⟩)] 29 (0, 0)) := by rw [<- hW0]; exact heap_alloc_new w _
 have q3 : W0.cell? ⟨g, 3, none⟩ = some (.slice a2 n c2) := (hb0.cell (p := ⟨g, 3, none⟩) hgl).trans p3
 have q0 := obj_cell x0 0 _ rfl
 have HW0 := Hy hW0
 have HX := Hy (An x0 hb0)
 have hsz0 := hb0.size
 obtain ⟨N, hN⟩ : ∃ N, T.map (·.1) = N := ⟨_, rfl⟩
 have HY := Hy (any_at (l := C) (q := misC N))
 have HN := Hy (any_no (l := C) (q := misC N))
 have HR := Hy (show hasTyB N C = (!(C.any (misC N)) && inL N objL) from rfl)
 obtain ⟨R, hR⟩ : ∃ R, C.any (misC N) = R := ⟨_, rfl⟩
 rw [hR] at HY HN HR
 have HCn := Hy (fun wr (hb : Below w.heap.size w wr) (hx : wr.cell? ⟨w.heap.size, 0, none⟩ = some (.pointer (some ⟨g, 0, none⟩))) l v (hl : l.length <= 1000000) (ht : TxR wr v l) (hs : ∀ s ∈ l, s.length <= 140737488355328) => snnoc_any l v w.heap.size g T C wr hl ht hx (scAt_below h hb) hs)
 have HCo := Hy (fun wr (hb : Below w.heap.size w wr) (hx : wr.cell? ⟨w.heap.size, 0, none⟩ = some (.pointer (some ⟨g, 0, none⟩))) => snno_any objL w.heap.size g T C wr hx (scAt_below h hb) (by decide))
 rw [hN] at HCn HCo ⊢
 have hz0 : w.heap.size < W0.heap.size := obj_lt x0
 clear hcells h hlm hs h1 h2 h3 h4 hn hN hW0 x0 hb0 hR
 go_enter Tryz.func71, Tryz.ntmps71
 go_wp2
 rw [HW0.out]
 clear q0 q3 p3
 go_loopw [13] (fun v wr => ∃ k : Nat, k <= n /\ v = .int .i64 (k : Nat) /\ Below W0.heap.size W0 wr /\ ∀ j (hj : j < C.length), j < k -> misC N C[j] = false) (fun v _ => n - (intOf v).toNat)
 case atStart => exact ⟨0, by omega, rfl, Below.refl _ _, fun j _ h => by omega⟩
 case round =>
  obtain ⟨k, hk, rfl, hb, hall⟩ := hrel
  have hsr := hb.size
  have hbw : Below w.heap.size w wr := HX.out.2.trans (hb.mono hsz0)
  by_cases hlt : k < n
  ·have hkl : (k : Int) < (n : Int) := by omega
   have hkm : k < C.length := by rw [HL.out]; exact hlt
   obtain ⟨g1, o1, mu, ma, rfl, hg1, e0w, e1w, e2w, tmu, tma, smu, sma⟩ := HM.out k hkm
   have e0 := (hbw.cell (p := ⟨g1, _, none⟩) hg1).trans e0w
   have e1 := (hbw.cell (p := ⟨g1, _, none⟩) hg1).trans e1w
   have e2 := (hbw.cell (p := ⟨g1, _, none⟩) hg1).trans e2w
   have hlk := HLm.out _ (List.getElem_mem hkm)
   have hsk := HLs.out _ (List.getElem_mem hkm)
   obtain ⟨bq, hbq⟩ : ∃ b, misC N C[k] = b := ⟨_, rfl⟩
   have HYk := Hy (fun hx => HY.out k hkm (by rw [hbq]; exact hx))
   have HA := Hy (fun (hx : bq = false) j (hj : j < C.length) (hjk : j < k + 1) => (show misC N C[j] = false by
    by_cases hjj : j = k
    ·subst hjj; rw [hbq]; exact hx
    ·exact hall j hj (by omega)))
   have hbq' := hbq
   unfold misC at hbq'
   obtain ⟨nm, hnm⟩ : ∃ x, C[k].1 = x := ⟨_, rfl⟩
   obtain ⟨MU, hMU⟩ : ∃ x, C[k].2.1 = x := ⟨_, rfl⟩
   obtain ⟨MA, hMA⟩ : ∃ x, C[k].2.2 = x := ⟨_, rfl⟩
   rw [hnm] at e0
   rw [hMU] at tmu hlk hsk hbq'
   rw [hMA] at tma hlk hsk hbq'
   obtain ⟨a3, n3, c3, rfl⟩ := slOk_form smu
   obtain ⟨a4, n4, c4, rfl⟩ := slOk_form sma
   obtain ⟨W1, hW1⟩ : ∃ W1, wr.alloc (.cells #[.string ⟨nm.toArray⟩, .slice a3 n3 c3, .slice a4 n4 c4] 82) = W1 := ⟨_, rfl⟩
   have hb1 : Below wr.heap.size wr W1 := by rw [<- hW1]; exact (Below.refl _ wr).alloc (Nat.le_refl _) _
   have hbw1 : Below w.heap.size w W1 := hbw.trans (hb1.mono hbw.size)
   have hx1 : W1.cell? ⟨w.heap.size, 0, none⟩ = some (.pointer (some ⟨g, 0, none⟩)) := (hb1.cell (p := ⟨w.heap.size, 0, none⟩) (by show w.heap.size < _; omega)).trans ((hb.cell (p := ⟨w.heap.size, 0, none⟩) hz0).trans (obj_cell HX.out.1 0 _ rfl))
   have HU := Hy (HCn.out W1 hbw1 hx1 MU _ hlk.1 (txR_below tmu hbw1) hsk.1)
   have HA2 := Hy (HCn.out W1 hbw1 hx1 MA _ hlk.2 (txR_below tma hbw1) hsk.2)
   obtain ⟨bu, hbu⟩ : ∃ b, (MU.any fun s => !inL N s) = b := ⟨_, rfl⟩
   obtain ⟨ba, hba⟩ : ∃ b, (MA.any fun s => !inL N s) = b := ⟨_, rfl⟩
   rw [hbu] at HU hbq'
   rw [hba] at HA2 hbq'
   have HW1 := Hy hW1
   have y1 : W1.heap[wr.heap.size]? = some (.cells #[.string ⟨nm.toArray⟩, .slice a3 n3 c3, .slice a4 n4 c4] 82 (0, 0)) := by rw [<- hW1]; exact heap_alloc_new wr _
   obtain ⟨i0, i1, i2⟩ := obj3 y1
   have HB := Hy (An (hb.trans (hb1.mono hsr)) hbw1)
   clear hall hbq hb hbw hb1 hbw1 hx1 e0w e1w e2w hnm hMU hMA hbu hba hlk hsk tmu tma smu sma hW1 y1
   go_wp2_with fail
   rw [HW1.out]
   refine HU.out.mono ?_
   rintro en w5 ⟨rfl, hw⟩
   obtain rfl := hw.symm
   cases bu
   ·go_wp2_with fail
    refine HA2.out.mono ?_
    rintro en w5 ⟨rfl, hw⟩
    obtain rfl := hw.symm
    cases ba
    ·have H := Hy (HA.out hbq'.symm)
     clear hbq' i0 i1 i2 e0 e1 e2
     go_wp2
     exact ⟨⟨k + 1, by omega, by go_num, HB.out.1, H.out⟩, by simp [intOf]; omega⟩
    ·have H := Hy (HYk.out hbq'.symm)
     clear hbq'
     go_wp2
     go_ret
     exact bB_mk (by rw [HR.out, H.out]; rfl) HB.out.2
   ·have H := Hy (HYk.out (by rw [<- hbq']; rfl))
    clear hbq'
    go_wp2
    go_ret
    exact bB_mk (by rw [HR.out, H.out]; rfl) HB.out.2
  ·obtain rfl : k = n := by omega
   have H := Hy (HN.out (fun j hj => hall j hj (by rw [<- HL.out]; exact hj)))
   have hx1 : wr.cell? ⟨w.heap.size, 0, none⟩ = some (.pointer (some ⟨g, 0, none⟩)) := (hb.cell (p := ⟨w.heap.size, 0, none⟩) hz0).trans (obj_cell HX.out.1 0 _ rfl)
   have HO := Hy (HCo.out wr hbw hx1)
   have HB := Hy hbw
   obtain ⟨bo, hbo⟩ : ∃ b, inL N objL = b := ⟨_, rfl⟩
   rw [hbo] at HO HR
   clear hb hall hbw hx1 hbo
   go_wp2_with fail
   refine HO.out.mono ?_
   rintro en w5 ⟨rfl, hw⟩
   obtain rfl := hw.symm
   go_wp2
   go_ret
   exact bB_mk (by rw [HR.out, H.out]; simp) HB.out
def scNw (T : List Ty) (C : List Cl) : Nat :=
 if 1024 < T.length \/ 1024 < C.length then 3 else if scChk T C ≠ 0 then scChk T C else if hasTyB ((T.map lowTy).map (·.1)) (C.map lowCl) = true then 0 else 8
theorem scChk_fill (T : List Ty) (C : List Cl) : scChk T C = if scFT T ≠ 0 then scFT T else scFC C := by
 have h : ∀ l, nmsL l = 0 \/ nmsL l = 13 := fun l => by unfold nmsL; split; exact .inl rfl; exact .inr rfl
 unfold scChk scFT scFC
 rcases h (T.map Prod.fst) with h1 | h1 <;> rcases h (C.map Prod.fst) with h2 | h2 <;> simp only [h1, h2] <;> simp <;> (repeat' split) <;> simp_all
def ScNewPost (T : List Ty) (C : List Cl) (w : World) (en : Ending) (w' : World) : Prop :=
 (scNw T C ≠ 0 -> en = .returned (.tuple #[.pointer none, .int .i64 (scNw T C : Nat)])) /\
 (scNw T C = 0 -> ∃ g, en = .returned (.tuple #[.pointer (some ⟨g, 0, none⟩), .int .i64 0]) /\ ScAt w' g (T.map lowTy) (C.map lowCl)) /\ Below w.heap.size w w'
theorem scNewPost_err {T : List Ty} {C : List Cl} {n : Nat} {w w' : World} (h : scNw T C = n) (hn : n ≠ 0) (hb : Below w.heap.size w w') : ScNewPost T C w (.returned (.tuple #[.pointer none, .int .i64 (n : Nat)])) w' := by
 subst h; exact ⟨fun _ => rfl, fun h => absurd h hn, hb⟩
theorem scFT_vals (T : List Ty) : scFT T = 0 \/ scFT T = 13 \/ scFT T = 1 \/ scFT T = 9 := by
 unfold scFT; repeat' split
 all_goals simp
theorem scFC_vals (C : List Cl) : scFC C = 0 \/ scFC C = 13 \/ scFC C = 9 := by
 unfold scFC; repeat' split
 all_goals simp
theorem tyAt_chg {S : Nat -> Prop} {w w' : World} {v : Value} {T : List Ty} (h : TyAt w v T) (hc : Chg S w w') (hs : ∀ g o n c, v = .slice (some ⟨g, o, none⟩) n c -> ¬ S g) : TyAt w' v T := by
 obtain ⟨a, c, rfl, h⟩ := h
 refine ⟨a, c, rfl, fun i hi => ?_⟩
 obtain ⟨g, o, rfl, h2, h3, h4, h5⟩ := h i hi
 have hb : ¬ S g := hs g o _ _ rfl
 have hbl := hc.block g h2 hb
 exact ⟨g, o, rfl, Nat.lt_of_lt_of_le h2 hc.size, (World.cell?_of_block (w := w) (a := ⟨g, _, none⟩) hbl).trans h3, (World.cell?_of_block (w := w) (a := ⟨g, _, none⟩) hbl).trans h4, (World.cell?_of_block (w := w) (a := ⟨g, _, none⟩) hbl).trans h5⟩
theorem snew_any (T : List Ty) (C : List Cl) (tv cv : Value) (w : World) (h : TyAt w tv T) (h2 : ClAt w cv C) (hbt : ∀ t ∈ T, t.1.length <= 140737488355328) (hbc : ∀ t ∈ C, t.1.length <= 140737488355328)
  (hlm : ∀ c ∈ C, c.2.1.length <= 1000000 /\ c.2.2.length <= 1000000) (hs : ∀ c ∈ C, (∀ s ∈ c.2.1, s.length <= 140737488355328) /\ ∀ s ∈ c.2.2, s.length <= 140737488355328) :
  Calls Tryz.prog 32 #[tv, cv] w (ScNewPost T C w) := by
 obtain ⟨S, hS⟩ : ∃ S, scNw T C = S := ⟨_, rfl⟩
 have hS' := hS
 unfold scNw at hS'
 obtain ⟨ta, tc, rfl, htc⟩ := id h
 obtain ⟨ca, cc, rfl, hcc⟩ := id h2
 by_cases hT : 1024 < T.length
 ·rw [if_pos (.inl hT)] at hS'
  have H := Hy (hS.trans hS'.symm)
  have hT' : (1024 : Int) < (T.length : Int) := by omega
  clear h h2 hS hS' htc hcc
  go_enter Tryz.func32, Tryz.ntmps32
  go_wp2
  go_ret2
  exact scNewPost_err H.out (by decide) (Below.refl _ _)
 have hT' : (T.length : Int) <= 1024 := by omega
 by_cases hC : 1024 < C.length
 ·rw [if_pos (.inr hC)] at hS'
  have H := Hy (hS.trans hS'.symm)
  have hC' : (1024 : Int) < (C.length : Int) := by omega
  clear h h2 hS hS' htc hcc
  go_enter Tryz.func32, Tryz.ntmps32
  go_wp2
  go_ret2
  exact scNewPost_err H.out (by decide) (Below.refl _ _)
 have hC' : (C.length : Int) <= 1024 := by omega
 rw [if_neg (by omega), scChk_fill] at hS'
 obtain ⟨W0, hW0⟩ : ∃ W0, w.alloc (.cells #[.map none, .slice none 0 0, .map none, .slice none 0 0] 133) = W0 := ⟨_, rfl⟩
 have hb0 : Below w.heap.size w W0 := by rw [<- hW0]; exact (Below.refl _ w).alloc (Nat.le_refl _) _
 have x0 : W0.heap[w.heap.size]? = some (.cells #[.map none, .slice none 0 0, .map none, .slice none 0 0] 133 (0, 0)) := by rw [<- hW0]; exact heap_alloc_new w _
 have HF := Hy (fillT_any T _ w.heap.size w W0 h hb0 (Nat.le_refl _) (by omega) hbt x0)
 have HFC := Hy (fun m1 v1 W1 (hb : Below w.heap.size w W1) hx => fillC_any C _ w.heap.size m1 v1 w W1 h2 hb (Nat.le_refl _) (by omega) hbc hlm hx)
 have HHT := Hy (fun W2 (hx : ScAt W2 w.heap.size (T.map lowTy) (C.map lowCl)) => hasTypes_any w.heap.size (T.map lowTy) (C.map lowCl) W2 hx (by simp; omega)
  (fun c hc => by obtain ⟨u, hu, rfl⟩ := List.mem_map.1 hc; simpa [lowCl] using hlm u hu)
  (fun c hc => by
   obtain ⟨u, hu, rfl⟩ := List.mem_map.1 hc
   refine ⟨fun s hs' => ?_, fun s hs' => ?_⟩
   ·obtain ⟨v, hv, rfl⟩ := List.mem_map.1 hs'; simpa [lowL] using (hs u hu).1 v hv
   ·obtain ⟨v, hv, rfl⟩ := List.mem_map.1 hs'; simpa [lowL] using (hs u hu).2 v hv))
 have HW0 := Hy hW0
 have HB0 := Hy hb0
 have HS := Hy hS'
 have HSS := Hy hS
 obtain ⟨nT, hnT⟩ : ∃ n, T.length = n := ⟨_, rfl⟩
 obtain ⟨nC, hnC⟩ : ∃ n, C.length = n := ⟨_, rfl⟩
 have hz0 : w.heap.size < W0.heap.size := obj_lt x0
 rw [hnT] at hT' HF ⊢
 rw [hnC] at hC' HFC ⊢
 clear h h2 hS hS' htc hcc hT hC hW0 hb0 x0 hnT hnC hbt hbc hlm hs
 go_enter Tryz.func32, Tryz.ntmps32
 go_wp2_with fail
 rw [HW0.out]
 refine HF.out.mono ?_
 rintro en W1 ⟨rfl, hch, hok⟩
 have HO := Hy (An hch hok)
 have hbw1 : Below w.heap.size w W1 := HB0.out.trans (hch.toBelow HB0.out.size (fun k _ hk => by have hk : k = w.heap.size := hk; omega))
 have HB1 := Hy hbw1
 have hz1 := hch.size
 clear hch hok hbw1
 rcases scFT_vals T with hv | hv | hv | hv
 ·rw [hv] at HO HS ⊢
  obtain ⟨mv, a1, n1, c1, x1, nm1, ty1, hbs⟩ := HO.out.2 rfl
  have HFC2 := Hy (HFC.out mv (.slice a1 n1 c1) W1 HB1.out x1)
  have HY := Hy (An nm1 (An ty1 (An x1 hbs)))
  have hgl1 := obj_lt x1
  clear x1 nm1 ty1 hv hbs
  go_wp2_with fail
  refine HFC2.out.mono ?_
  rintro en W2 ⟨rfl, hch, hok⟩
  have HO2 := Hy (An hch hok)
  have hbw2 : Below w.heap.size w W2 := HB1.out.trans (hch.toBelow HB1.out.size (fun k _ hk => by have hk : k = w.heap.size := hk; omega))
  have HB2 := Hy hbw2
  have hz2 := hch.size
  clear hch hok hbw2
  rcases scFC_vals C with hv | hv | hv
  ·rw [hv] at HO2 HS ⊢
   obtain ⟨mv2, a2, n2, c2, x2, nm2, cl2⟩ := HO2.out.2 rfl
   have hsc : ScAt W2 w.heap.size (T.map lowTy) (C.map lowCl) := ⟨mv, a1, n1, c1, mv2, a2, n2, c2, x2, nmAt_chg HY.out.1 HO2.out.1 (fun b hb e => by subst hb; exact nmAt_ne HY.out.1 HY.out.2.2.1 e),
    tyAt_chg HY.out.2.1 HO2.out.1 (fun j o n c hj e => by injection hj with hj; have := HY.out.2.2.2 j o hj; have e' : j = w.heap.size := e; omega), nm2, cl2⟩
   have HSC := Hy hsc
   have HH := Hy (HHT.out W2 hsc)
   obtain ⟨r, hr⟩ : ∃ r, hasTyB ((T.map lowTy).map (·.1)) (C.map lowCl) = r := ⟨_, rfl⟩
   rw [hr] at HH HS
   clear x2 nm2 cl2 hsc hv hr
   go_wp2_with fail
   refine HH.out.mono ?_
   rintro en W3 ⟨rfl, hb3⟩
   have HB3 := Hy (HB2.out.trans (hb3.mono HB2.out.size))
   have HS3 := Hy (scAt_below HSC.out hb3)
   clear hb3
   cases r
   ·have H := Hy (HSS.out.trans HS.out.symm)
    go_wp2
    go_ret2
    exact scNewPost_err H.out (by decide) HB3.out
   ·have H := Hy (HSS.out.trans HS.out.symm)
    go_wp2
    go_ret2
    exact ⟨fun h => absurd H.out h, fun _ => ⟨_, rfl, HS3.out⟩, HB3.out⟩
  all_goals
   rw [hv] at HS ⊢
   have H := Hy (HSS.out.trans HS.out.symm)
   clear hv
   go_wp2
   go_ret2
   exact scNewPost_err H.out (by decide) HB2.out
 all_goals
  rw [hv] at HS ⊢
  have H := Hy (HSS.out.trans HS.out.symm)
  clear hv
  go_wp2
  go_ret2
  exact scNewPost_err H.out (by decide) HB1.out
def plT : List Ty := [([99, 110], 1, false), ([115, 110], 1, false), ([111, 117], 1, false), ([100, 99], 1, false), ([111], 1, false), ([100, 101, 115, 99, 114, 105, 112, 116, 105, 111, 110], 1, false), ([109, 97, 105, 108], 1, false), ([111, 98, 106, 101, 99, 116, 99, 108, 97, 115, 115], 1, false), ([117, 115, 101, 114, 112, 97, 115, 115, 119, 111, 114, 100], 4, true), ([117, 105, 100], 1, true), ([117, 105, 100, 110, 117, 109, 98, 101, 114], 3, true), ([109, 101, 109, 98, 101, 114], 5, false), ([115, 101, 114, 105, 97, 108, 110, 117, 109, 98, 101, 114], 2, false)]
def plC : List Cl := [([116, 111, 112], [], []), ([112, 101, 114, 115, 111, 110], [[99, 110], [115, 110]], [[100, 101, 115, 99, 114, 105, 112, 116, 105, 111, 110], [117, 115, 101, 114, 112, 97, 115, 115, 119, 111, 114, 100], [109, 97, 105, 108], [117, 105, 100], [117, 105, 100, 110, 117, 109, 98, 101, 114], [115, 101, 114, 105, 97, 108, 110, 117, 109, 98, 101, 114], [109, 101, 109, 98, 101, 114]]), ([111, 114, 103, 97, 110, 105, 122, 97, 116, 105, 111, 110, 97, 108, 117, 110, 105, 116], [[111, 117]], [[100, 101, 115, 99, 114, 105, 112, 116, 105, 111, 110], [109, 101, 109, 98, 101, 114]]), ([100, 111, 109, 97, 105, 110], [[100, 99]], [[100, 101, 115, 99, 114, 105, 112, 116, 105, 111, 110], [111]]), ([103, 114, 111, 117, 112], [[99, 110]], [[109, 101, 109, 98, 101, 114], [100, 101, 115, 99, 114, 105, 112, 116, 105, 111, 110]])]
theorem plT_low : plT.map lowTy = plT := by decide +kernel
theorem plC_low : plC.map lowCl = plC := by decide +kernel
theorem pl_new : scNw plT plC = 0 := by decide +kernel
theorem tyAt_new (w : World) (T : List Ty) (e : TypeId) : TyAt (w.alloc (.cells (tycs T).toArray e)) (.slice (some ⟨w.heap.size, 0, none⟩) T.length T.length) T := by
 refine ⟨_, _, rfl, fun i hi => ⟨w.heap.size, 0, rfl, by simp, ?_⟩⟩
 obtain ⟨h1, h2, h3⟩ := tycs_at T i hi
 rw [Nat.zero_add]
 refine ⟨?_, ?_, ?_⟩
 ·rw [World.cell?_alloc_mark w _ e (0, 0)]; simpa using h1
 ·rw [World.cell?_alloc_mark w _ e (0, 0)]; simpa using h2
 ·rw [World.cell?_alloc_mark w _ e (0, 0)]; simpa using h3
def PlTPost (w : World) (en : Ending) (w' : World) : Prop := ∃ v, en = .returned v /\ TyAt w' v plT /\ Below w.heap.size w w'
def PlCPost (w : World) (en : Ending) (w' : World) : Prop := ∃ v, en = .returned v /\ ClAt w' v plC /\ Below w.heap.size w w'
def PlainPost (w : World) (en : Ending) (w' : World) : Prop := ∃ g, en = .returned (.pointer (some ⟨g, 0, none⟩)) /\ ScAt w' g plT plC /\ Below w.heap.size w w'
theorem plT_any (w : World) : Calls Tryz.prog 33 #[] w (PlTPost w) := by
 have HT := Hy (tyAt_new w plT 79)
 go_enter Tryz.func33, Tryz.ntmps33
 go_wp2
 go_ret
 exact ⟨_, rfl, HT.out, (Below.refl _ _).alloc (Nat.le_refl _) _⟩
def allocs (e : TypeId) (w : World) : List (List (List UInt8)) -> World
 | [] => w
 | l :: r => allocs e (w.alloc (.cells (sc l).toArray e)) r
theorem allocs_size (e : TypeId) (ls : List (List (List UInt8))) : ∀ w : World, (allocs e w ls).heap.size = w.heap.size + ls.length := by
 induction ls with
 | nil => intro w; rfl
 | cons l r ih => intro w; rw [allocs, ih]; simp; omega
theorem allocs_below (e : TypeId) (ls : List (List (List UInt8))) : ∀ w : World, Below w.heap.size w (allocs e w ls) := by
 induction ls with
 | nil => intro w; exact Below.refl _ _
 | cons l r ih => intro w; exact ((Below.refl _ w).alloc (Nat.le_refl _) _).trans ((ih _).mono (by simp))
theorem allocs_at (e : TypeId) (ls : List (List (List UInt8))) : ∀ (w : World) (i : Nat) (h : i < ls.length), TxR (allocs e w ls) (.slice (some ⟨w.heap.size + i, 0, none⟩) ls[i].length ls[i].length) ls[i] := by
 induction ls with
 | nil => intro w i h; simp at h
 | cons l r ih =>
  intro w i h
  cases i with
  | zero => exact txR_below (txR_new w l e) (allocs_below e r _)
  | succ i =>
   have := ih (w.alloc (.cells (sc l).toArray e)) i (by simpa using h)
   rw [World.size_alloc, show w.heap.size + 1 + i = w.heap.size + (i + 1) by omega] at this
   exact this
theorem clAt_lit (w : World) (C : List Cl) (L : List (List UInt8 × Value × Value)) (e : TypeId) (hl : L.length = C.length) (h : ∀ i (h1 : i < C.length) (h2 : i < L.length), L[i].1 = C[i].1 /\ TxR w L[i].2.1 C[i].2.1 /\ TxR w L[i].2.2 C[i].2.2 /\ SlOk L[i].2.1 /\ SlOk L[i].2.2) :
  ClAt (w.alloc (.cells (clcs L).toArray e)) (.slice (some ⟨w.heap.size, 0, none⟩) C.length C.length) C := by
 refine ⟨_, _, rfl, fun i hi => ?_⟩
 obtain ⟨h0, t1, t2, s1, s2⟩ := h i hi (by omega)
 obtain ⟨a1, a2, a3⟩ := clcs_at L i (by omega)
 have hb : Below w.heap.size w (w.alloc (.cells (clcs L).toArray e)) := (Below.refl _ w).alloc (Nat.le_refl _) _
 refine ⟨w.heap.size, 0, L[i].2.1, L[i].2.2, rfl, by simp, ?_, ?_, ?_, txR_below t1 hb, txR_below t2 hb, s1, s2⟩
 ·rw [Nat.zero_add, World.cell?_alloc_mark w _ e (0, 0)]; rw [h0] at a1; simpa using a1
 ·rw [Nat.zero_add, World.cell?_alloc_mark w _ e (0, 0)]; simpa using a2
 ·rw [Nat.zero_add, World.cell?_alloc_mark w _ e (0, 0)]; simpa using a3
def plLs : List (List (List UInt8)) := (plC.drop 1).flatMap fun c => [c.2.1, c.2.2]
def slN (b n : Nat) : Value := .slice (some ⟨b, 0, none⟩) n n
def plRow (b : Nat) : List (List UInt8 × Value × Value) :=
 [([116, 111, 112], .slice none 0 0, .slice none 0 0), ([112, 101, 114, 115, 111, 110], slN b 2, slN (b + 1) 7), ([111, 114, 103, 97, 110, 105, 122, 97, 116, 105, 111, 110, 97, 108, 117, 110, 105, 116], slN (b + 2) 1, slN (b + 3) 2),
 ([100, 111, 109, 97, 105, 110], slN (b + 4) 1, slN (b + 5) 2), ([103, 114, 111, 117, 112], slN (b + 6) 1, slN (b + 7) 2)]
theorem plC_at (w : World) : ClAt ((allocs 9 w plLs).alloc (.cells (clcs (plRow w.heap.size)).toArray 82)) (.slice (some ⟨w.heap.size + 8, 0, none⟩) 5 5) plC := by
 have hz := allocs_size 9 plLs w
 have ha := fun i h => allocs_at 9 plLs w i h
 have h := clAt_lit (allocs 9 w plLs) plC (plRow w.heap.size) 82 rfl (fun i h1 h2 => by
  match i, h1 with
  | 0, _ => exact ⟨rfl, txR_nil _ _ _, txR_nil _ _ _, .inl rfl, .inl rfl⟩
  | 1, _ => exact ⟨rfl, ha 0 (by decide), ha 1 (by decide), .inr ⟨_, _, _, rfl⟩, .inr ⟨_, _, _, rfl⟩⟩
  | 2, _ => exact ⟨rfl, ha 2 (by decide), ha 3 (by decide), .inr ⟨_, _, _, rfl⟩, .inr ⟨_, _, _, rfl⟩⟩
  | 3, _ => exact ⟨rfl, ha 4 (by decide), ha 5 (by decide), .inr ⟨_, _, _, rfl⟩, .inr ⟨_, _, _, rfl⟩⟩
  | 4, _ => exact ⟨rfl, ha 6 (by decide), ha 7 (by decide), .inr ⟨_, _, _, rfl⟩, .inr ⟨_, _, _, rfl⟩⟩)
 rw [hz] at h
 exact h
theorem plC_any (w : World) : Calls Tryz.prog 34 #[] w (PlCPost w) := by
 have HC := Hy (plC_at w)
 have HB := Hy (show Below w.heap.size w ((allocs 9 w plLs).alloc (.cells (clcs (plRow w.heap.size)).toArray 82)) from (allocs_below _ _ w).alloc (allocs_below _ _ w).size _)
 go_enter Tryz.func34, Tryz.ntmps34
 go_wp2
 go_ret
 exact ⟨_, rfl, HC.out, HB.out⟩
theorem plain_any (w : World) : Calls Tryz.prog 10 #[] w (PlainPost w) := by
 have HT := Hy (plT_any w)
 have HC := Hy plC_any
 go_enter Tryz.func10, Tryz.ntmps10
 go_wp2_with fail
 refine HT.out.mono ?_
 rintro en w1 ⟨tv, rfl, ht, hb1⟩
 have H1 := Hy (An ht hb1)
 clear ht hb1
 go_wp2_with fail
 refine (HC.out w1).mono ?_
 rintro en w2 ⟨cv, rfl, hc, hb2⟩
 have H2 := Hy (An (tyAt_below H1.out.1 hb2) (An hc (H1.out.2.trans (hb2.mono H1.out.2.size))))
 clear hc hb2
 go_wp2_with fail
 refine (snew_any plT plC tv cv w2 H2.out.1 H2.out.2.1 (by decide +kernel) (by decide +kernel) (by decide +kernel) (by decide +kernel)).mono ?_
 rintro en w3 ⟨_, hok, hb3⟩
 obtain ⟨g, rfl, hsc⟩ := hok pl_new
 rw [plT_low, plC_low] at hsc
 have H3 := Hy (An hsc (H2.out.2.2.trans (hb3.mono H2.out.2.2.size)))
 clear hsc hb3 hok
 go_wp2
 go_ret
 exact ⟨g, rfl, H3.out.1, H3.out.2⟩
theorem getD_bind {α : Type} (T : List α) (i : Nat) (h : i < T.length) : (some i).bind (fun i => T[i]?) = some T[i] := by simp [h]
theorem stype_any (g : Nat) (T : List Ty) (C : List Cl) (s : List UInt8) (w : World) (h : ScAt w g T C) (hlow : LowT T) (hs : s.length <= 140737488355328) (hlen : T.length <= 1024) :
  Calls Tryz.prog 37 #[.pointer (some ⟨g, 0, none⟩), .string ⟨s.toArray⟩] w (TyPost (scT T s) w) := by
 have hix := scT_ixl hlow s
 have HLo := Hy (fun w => show Calls Tryz.prog 74 #[.string ⟨s.toArray⟩] w (StrPost (lowL s) w) from lower_any ⟨s.toArray⟩ w)
 have hll : (lowL s).length <= 140737488355328 := by simpa [lowL] using hs
 obtain ⟨LS, hLS⟩ : ∃ x, lowL s = x := ⟨_, rfl⟩
 rw [hLS] at HLo hix hll
 have HP := Hy (fun w' (hb : Below w.heap.size w w') => (show Calls Tryz.prog 73 #[.pointer (some ⟨g, 0, none⟩), .string ⟨LS.toArray⟩] w' (PlPost (ixL (T.map (·.1)) LS) w') by
  obtain ⟨m1, a1, n1, c1, m2, a2, n2, c2, h1, h2, _⟩ := scAt_below h hb
  exact place_any g 0 m1 _ LS w' (obj4 h1).1 h2 hll))
 obtain ⟨R, hR⟩ : ∃ R, scT T s = R := ⟨_, rfl⟩
 rw [hR] at hix ⊢
 have HS := Hy h
 have hb0 : Below w.heap.size w (w.alloc (.cells #[.string ⟨#[]⟩, .int .i64 0, .bool false] 79)) := (Below.refl _ w).alloc (Nat.le_refl _) _
 have x0 : (w.alloc (.cells #[.string ⟨#[]⟩, .int .i64 0, .bool false] 79)).heap[w.heap.size]? = some (.cells #[.string ⟨#[]⟩, .int .i64 0, .bool false] 79 (0, 0)) := heap_alloc_new w _
 obtain ⟨W0, hW0⟩ : ∃ W0, w.alloc (.cells #[.string ⟨#[]⟩, .int .i64 0, .bool false] 79) = W0 := ⟨_, rfl⟩
 rw [hW0] at hb0 x0
 have HW0 := Hy hW0
 have hz0 : w.heap.size < W0.heap.size := obj_lt x0
 have HX := Hy (An hb0 x0)
 have hgl := scAt_lt h
 cases hq : ixL (T.map (·.1)) LS with
 | none =>
  rw [hq] at hix HP
  have HR := Hy (show R = none from hix)
  have HP2 := Hy (fun w' (hb : Below w.heap.size w w') => (show Calls Tryz.prog 73 #[.pointer (some ⟨g, 0, none⟩), .string ⟨LS.toArray⟩] w' (fun en w'' => en = .returned (.tuple #[.int .i64 0, .bool false]) /\ w' = w'') from HP.out w' hb))
  clear HP h hLS hll hR hix hW0 hb0 x0 hq
  go_enter Tryz.func37, Tryz.ntmps37
  go_wp2
  rw [HW0.out]
  go_region_held3 (fun _ => True) (exact trivial) (first
   | (go_at_call 74; (with_reducible refine (HLo.out _).mono ?_); rintro en w5 ⟨rfl, hb5⟩; have hbW : Below W0.heap.size W0 w5 := (Below.refl _ W0).drew.trans hb5)
   | (go_at_call 73; (with_reducible refine (HP2.out _ (HX.out.1.trans (hbW.mono HX.out.1.size))).mono ?_); rintro en w6 ⟨rfl, rfl⟩))
  have x5 := obj_below HX.out.2 hbW hz0
  have HB := Hy (An (HX.out.1.trans (hbW.mono HX.out.1.size)) x5)
  obtain ⟨r0, r1, r2⟩ := obj3 x5
  have f0 := obj_free x5 0
  have f1 := obj_free x5 1
  have f2 := obj_free x5 2
  clear hb5 hbW x5
  go_wp2
  obtain ⟨j0, j1, j2⟩ := obj3 (obj_set3 HB.out.2 (.string ⟨#[]⟩) (.int .i64 0) (.bool false))
  refine bodyPost_ret (v := TyV none) (by simp [results, Tryz.results37, go_sem, TyV, *]) rfl ?_
  exact ⟨by rw [HR.out], below_set3 HB.out.1 (Nat.le_refl _) _ _ _⟩
 | some i =>
  rw [hq] at hix HP
  obtain ⟨hi0, hie⟩ := ix_some hq
  have hi : i < T.length := by simpa using hi0
  rw [getD_bind T i hi] at hix
  have HP2 := Hy (fun w' (hb : Below w.heap.size w w') => (show Calls Tryz.prog 73 #[.pointer (some ⟨g, 0, none⟩), .string ⟨LS.toArray⟩] w' (fun en w'' => en = .returned (.tuple #[.int .i64 (i : Nat), .bool true]) /\ w' = w'') from HP.out w' hb))
  obtain ⟨nm, hnm⟩ : ∃ x, T[i].1 = x := ⟨_, rfl⟩
  obtain ⟨rl, hrl⟩ : ∃ x, T[i].2.1 = x := ⟨_, rfl⟩
  obtain ⟨sg, hsg⟩ : ∃ x, T[i].2.2 = x := ⟨_, rfl⟩
  have HR := Hy (show R = some (nm, rl, sg) by rw [hix, <- hnm, <- hrl, <- hsg])
  obtain ⟨n, hn⟩ : ∃ n, T.length = n := ⟨_, rfl⟩
  have HC := Hy (show ∃ a1 c1 g1 o1, a1 = some (Addr.mk g1 o1 none) /\ w.cell? ⟨g, 1, none⟩ = some (.slice a1 n c1) /\ g1 < w.heap.size /\ w.cell? ⟨g1, o1 + i * 3, none⟩ = some (.string ⟨nm.toArray⟩) /\ w.cell? ⟨g1, o1 + i * 3 + 1, none⟩ = some (.int .i64 rl) /\ w.cell? ⟨g1, o1 + i * 3 + 2, none⟩ = some (.bool sg) by
   obtain ⟨m1, a1, n1, c1, m2, a2, n2, c2, h1, _, ⟨a, c, e, h3⟩, _⟩ := h
   injection e with e1 e2 e3
   subst e1 e2 e3
   obtain ⟨g1, o1, e, h4, h5, h6, h7⟩ := h3 i hi
   rw [hnm] at h5
   rw [hrl] at h6
   rw [hsg] at h7
   refine ⟨a1, c1, g1, o1, e, ?_, h4, h5, h6, h7⟩
   have := (obj4 h1).2.1
   rw [hn] at this
   exact this)
  rw [hn] at hi hlen
  have hi' : (i : Int) < (n : Int) := by omega
  have hi'' : (0 : Int) <= (i : Int) := by omega
  clear HP h hLS hll hR hix hW0 hb0 x0 hq hie hi0 hnm hrl hsg hn
  obtain ⟨a1, c1, g1, o1, rfl, p1w, hg1, e0w, e1w, e2w⟩ := HC.out
  clear HC
  have HE := Hy (An p1w (An e0w (An e1w e2w)))
  clear p1w e0w e1w e2w
  go_enter Tryz.func37, Tryz.ntmps37
  go_wp2
  rw [HW0.out]
  go_region_held3 (fun _ => True) (exact trivial) (first
   | (go_at_call 74; (with_reducible refine (HLo.out _).mono ?_); rintro en w5 ⟨rfl, hb5⟩; have hbW : Below W0.heap.size W0 w5 := (Below.refl _ W0).drew.trans hb5)
   | (go_at_call 73; (with_reducible refine (HP2.out _ (HX.out.1.trans (hbW.mono HX.out.1.size))).mono ?_); rintro en w6 ⟨rfl, rfl⟩))
  have x5 := obj_below HX.out.2 hbW hz0
  have hw5 := HX.out.1.trans (hbW.mono HX.out.1.size)
  have HB := Hy (An hw5 x5)
  have p1 := (hw5.cell (p := ⟨g, 1, none⟩) hgl).trans HE.out.1
  have e0 := (hw5.cell (p := ⟨g1, _, none⟩) hg1).trans HE.out.2.1
  have e1 := (hw5.cell (p := ⟨g1, _, none⟩) hg1).trans HE.out.2.2.1
  have e2 := (hw5.cell (p := ⟨g1, _, none⟩) hg1).trans HE.out.2.2.2
  obtain ⟨r0, r1, r2⟩ := obj3 x5
  have f0 := obj_free x5 0
  have f1 := obj_free x5 1
  have f2 := obj_free x5 2
  clear hb5 hbW x5 hw5
  go_wp2
  obtain ⟨j0, j1, j2⟩ := obj3 (obj_set3 HB.out.2 (.string ⟨nm.toArray⟩) (.int .i64 rl) (.bool sg))
  refine bodyPost_ret (v := TyV (some (nm, rl, sg))) (by simp [results, Tryz.results37, go_sem, TyV, *]) rfl ?_
  exact ⟨by rw [HR.out], below_set3 HB.out.1 (Nat.le_refl _) _ _ _⟩
def AtAt (w : World) (v : Value) (A : List Atr) : Prop :=
 ∃ a c, v = .slice a A.length c /\ ∀ i (hi : i < A.length), ∃ g o vl, a = some ⟨g, o, none⟩ /\ g < w.heap.size /\ w.cell? ⟨g, o + i * 2, none⟩ = some (.string ⟨A[i].1.toArray⟩) /\ w.cell? ⟨g, o + i * 2 + 1, none⟩ = some vl /\ TxR w vl A[i].2
theorem atAt_below {w w' : World} {v : Value} {A : List Atr} (h : AtAt w v A) (hb : Below w.heap.size w w') : AtAt w' v A := by
 obtain ⟨a, c, rfl, h⟩ := h
 refine ⟨a, c, rfl, fun i hi => ?_⟩
 obtain ⟨g, o, vl, h1, h2, h3, h4, h5⟩ := h i hi
 exact ⟨g, o, vl, h1, Nat.lt_of_lt_of_le h2 hb.size, (hb.cell (p := ⟨g, _, none⟩) h2).trans h3, (hb.cell (p := ⟨g, _, none⟩) h2).trans h4, txR_below h5 hb⟩
end Go.Proofs.YtpkbgkoocijegaaGreatDoor
