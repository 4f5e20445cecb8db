/- The document's twice and out. The document's With and Without. The document's Get with a row of its own; its with. The document's add. The document's drop. The document's One: one modification. -/
import Derived.Test.YtpkbgkoocijegaaGreatDoorMo1
import Derived.Test.YtpkbgkoocijegaaGreatDoorRuK
import Derived.Test.YtpkbgkoocijegaaGreatDoorGenB
import Derived.Test.YtpkbgkoocijegaaGreatDoorEnCE
import Derived.Test.YtpkbgkoocijegaaGreatDoorEnFI
import Derived.Test.YtpkbgkoocijegaaGreatDoorEnUW
import Derived.Test.YtpkbgkoocijegaaGreatDoorEnHO
import Derived.Test.YtpkbgkoocijegaaGreatDoorEnJN
import Derived.Test.YtpkbgkoocijegaaGreatDoorDtG
import Derived.Test.YtpkbgkoocijegaaGreatDoorMo2
import Derived.Test.YtpkbgkoocijegaaGreatDoorMo3
import Derived.Test.YtpkbgkoocijegaaGreatDoorScF
set_option linter.unusedVariables false
set_option linter.unusedSimpArgs false
set_option maxHeartbeats 25600000
set_option maxRecDepth 100000
namespace Go.Proofs.YtpkbgkoocijegaaGreatDoor
open Go Go.RowKit Go.Proofs.BerK Go.Proofs.MemK Go.Proofs.UtfK
theorem tw_yes {r : Int} {vs : List (List UInt8)} (i k : Nat) (hi : i < vs.length) (hk : k < vs.length) (h : k < i) (hs : sameQ r vs[i] vs[k] = true) : mdTw r vs = true := mdTw_ex.2 ⟨i, k, hi, hk, h, hs⟩
theorem tw_no {r : Int} {vs : List (List UInt8)} (h : ∀ i k (hi : i < vs.length) (hk : k < vs.length), k < i -> sameQ r vs[i] vs[k] = false) : mdTw r vs = false := by
 rw [Bool.eq_false_iff]
 intro h2
 obtain ⟨i, k, hi, hk, hki, hs⟩ := mdTw_ex.1 h2
 rw [h i k hi hk hki] at hs
 cases hs
theorem same_eq (r : Int) (v x : List UInt8) : sameQ r v x = (eqP (ruN r x) (ruN r v) == 1) := rfl
theorem rtw21_any (r : Int) (vs : List (List UInt8)) (v : Value) (w : World) (h : TxR w v vs) (hl : vs.length <= 1000000) : Calls Tryz.prog 85 #[.int .i64 r, v] w (BB (mdTw r vs) w) := by
 obtain ⟨a, c, rfl, hcells⟩ := h
 have HM := Hy hcells
 have HE := Hy (fun a b w => rrequal_any r a b w)
 have HY := Hy (tw_yes (r := r) (vs := vs))
 have HN := Hy (tw_no (r := r) (vs := vs))
 obtain ⟨D, hD⟩ : ∃ D, mdTw r vs = D := ⟨_, rfl⟩
 rw [hD] at HY HN ⊢
 obtain ⟨n, hn⟩ : ∃ n, vs.length = n := ⟨_, rfl⟩
 have HL := Hy hn
 rw [hn] at hl ⊢
 clear hcells hn hD
 go_enter Tryz.func85, Tryz.ntmps85
 go_wp2
 go_loopw [5] (fun v wr => ∃ i : Nat, i <= n /\ v = .int .i64 (i : Nat) /\ Below w.heap.size w wr /\ ∀ x k (hx : x < vs.length) (hk : k < vs.length), x < i -> k < x -> sameQ r vs[x] vs[k] = false) (fun v _ => n - (intOf v).toNat)
 case atStart => exact ⟨0, by omega, rfl, Below.refl _ _, fun x k _ _ h _ => by omega⟩
 case round =>
  obtain ⟨i, hi, rfl, hbo, hall⟩ := hrel
  obtain ⟨wo, rfl⟩ : ∃ x, x = wr := ⟨_, rfl⟩
  by_cases hlt : i < n
  ·have hkl : (i : Int) < (n : Int) := by omega
   have him : i < vs.length := by rw [HL.out]; exact hlt
   have HBo := Hy (An hbo hall)
   clear hbo hall
   go_wp2
   go_loopw [6] (fun v wi => ∃ k : Nat, k <= i /\ v = .int .i64 (k : Nat) /\ Below w.heap.size w wi /\ ∀ x (hx : x < vs.length), x < k -> sameQ r vs[i] vs[x] = false) (fun v _ => i - (intOf v).toNat)
   case atStart => exact ⟨0, by omega, rfl, HBo.out.1, fun x _ h => by omega⟩
   case round =>
    obtain ⟨k, hk, rfl, hb, hin⟩ := hrel
    by_cases hlk : k < i
    ·have hkl2 : (k : Int) < (i : Int) := by omega
     have hkl3 : (k : Int) < (n : Int) := by omega
     have hkm : k < vs.length := by omega
     obtain ⟨g, o, rfl, hg, e0w⟩ := HM.out k hkm
     obtain ⟨g', o', e', _, e1w⟩ := HM.out i him
     injection e' with e'
     injection e' with e1 e2 _
     subst e1 e2
     have e0 := (hb.cell (p := ⟨g, _, none⟩) hg).trans e0w
     have e1 := (hb.cell (p := ⟨g, _, none⟩) hg).trans e1w
     have hse := same_eq r vs[i] vs[k]
     have hyes := HY.out i k him hkm hlk
     have hnext := fun (hx : sameQ r vs[i] vs[k] = false) x (hxl : x < vs.length) (hxk : x < k + 1) => (show sameQ r vs[i] vs[x] = false by
      by_cases e : x = k
      ·subst e; exact hx
      ·exact hin x hxl (by omega))
     have zg := Nat.lt_of_lt_of_le hg hb.size
     have hEq := HE.out vs[k] vs[i]
     obtain ⟨xi, hxi⟩ : ∃ x, vs[i] = x := ⟨_, rfl⟩
     have HXi := Hy hxi
     obtain ⟨xk, hxk⟩ : ∃ x, vs[k] = x := ⟨_, rfl⟩
     rw [hxk] at e0 hse hEq
     rw [hxi] at e1 hse hEq
     obtain ⟨q, hq⟩ : ∃ q, eqP (ruN r xk) (ruN r xi) = q := ⟨_, rfl⟩
     rw [hq] at hEq hse
     have HEk := Hy hEq
     rw [hxi, hxk, hse] at hyes hnext
     have H := Hy (An hb (An hyes hnext))
     clear hb hin e0w e1w hse hyes hnext hEq hq
     by_cases h1 : q = 1
     ·have ht : (q == 1) = true := by simp [h1]
      have HQ := Hy (H.out.2.1 ht)
      clear h1 hxi hxk
      go_wp2_with fail
      go_region_held3 (fun w' => w'.cell? ⟨g, o + k, none⟩ = some (.string ⟨xk.toArray⟩) /\ w'.cell? ⟨g, o + i, none⟩ = some (.string ⟨xi.toArray⟩)) (first | exact ⟨d0, d1⟩ | exact ⟨e0, e1⟩ | go_keep)
       (first | (go_at_call 92; (with_reducible refine (HEk.out _).mono ?_); rintro en wz ⟨rfl, hb5⟩; have hbW : Below wr.heap.size wr wz := (by first | exact (Below.refl _ wr).drew.trans hb5 | exact hb5); have d0 := (hbW.cell (p := ⟨g, _, none⟩) zg).trans e0; have d1 := (hbW.cell (p := ⟨g, _, none⟩) zg).trans e1; clear hb5))
      all_goals
       clear d0 d1 e0 e1
       have HB := Hy (H.out.1.trans (hbW.mono H.out.1.size))
       clear hbW
       go_wp2
       try go_ret
       exact bB_mk HQ.out HB.out
     ·have ht : (q == 1) = false := by simpa using h1
      have HQ := Hy (H.out.2.2 ht)
      clear h1 hxi hxk
      go_wp2_with fail
      go_region_held3 (fun w' => w'.cell? ⟨g, o + k, none⟩ = some (.string ⟨xk.toArray⟩) /\ w'.cell? ⟨g, o + i, none⟩ = some (.string ⟨xi.toArray⟩)) (first | exact ⟨d0, d1⟩ | exact ⟨e0, e1⟩ | go_keep)
       (first | (go_at_call 92; (with_reducible refine (HEk.out _).mono ?_); rintro en wz ⟨rfl, hb5⟩; have hbW : Below wr.heap.size wr wz := (by first | exact (Below.refl _ wr).drew.trans hb5 | exact hb5); have d0 := (hbW.cell (p := ⟨g, _, none⟩) zg).trans e0; have d1 := (hbW.cell (p := ⟨g, _, none⟩) zg).trans e1; clear hb5))
      all_goals
       clear d0 d1 e0 e1
       have HB := Hy (H.out.1.trans (hbW.mono H.out.1.size))
       clear hbW
       go_wp2
       exact ⟨⟨k + 1, by omega, by go_num, HB.out, by rw [HXi.out]; exact HQ.out⟩, by simp [intOf]; omega⟩
    ·obtain rfl : k = i := by omega
     have HQ := Hy (show ∀ x j (hx : x < vs.length) (hj : j < vs.length), x < k + 1 -> j < x -> sameQ r vs[x] vs[j] = false from fun x j hx hj h1 h2 => by
      by_cases e : x = k
      ·subst e; exact hin j hj h2
      ·exact HBo.out.2 x j hx hj (by omega) h2)
     have HB := Hy hb
     clear hb hin
     go_wp2
     exact ⟨⟨k + 1, by omega, by go_num, HB.out, HQ.out⟩, by simp [intOf]; omega⟩
  ·obtain rfl : i = n := by omega
   have HQ := Hy (HN.out (fun x k hx hk h => hall x k hx hk (by rw [<- HL.out]; exact hx) h))
   have HB := Hy hbo
   clear hbo hall
   go_wp2
   go_ret
   exact bB_mk HQ.out HB.out
def OuPost (o : Option (List (List UInt8))) (w : World) (en : Ending) (w' : World) : Prop :=
 (o = none -> ∃ u, en = .returned (.tuple #[u, .bool false])) /\ (∀ k, o = some k -> ∃ u, en = .returned (.tuple #[u, .bool true]) /\ w'.ownsRow w.heap.size 9 1 u k.length (sc k)) /\ Below w.heap.size w w'
theorem scM_take (l : List (List UInt8)) (k : Nat) : (sc l).take (k * 1) = sc (l.take k) := by rw [Nat.mul_one]; simp [sc, List.map_take]
theorem scM_drop (l : List (List UInt8)) (k : Nat) : (sc l).drop (k * 1) = sc (l.drop k) := by rw [Nat.mul_one]; simp [sc, List.map_drop]
theorem rdM_take {w : World} {B : Nat} {e : TypeId} {g n cap : Nat} {O : List (List UInt8)} (h : w.ownsRow B e 1 (.slice (some ⟨g, 0, none⟩) n cap) n (sc O)) (k : Nat) (hk : k <= n) : RdRow w 1 (.slice (some ⟨g, 0, none⟩) k cap) k (sc (O.take k)) := by
 have := rdRow_take h k hk
 rwa [scM_take] at this
theorem rdM_drop {w : World} {B : Nat} {e : TypeId} {g n cap : Nat} {O : List (List UInt8)} (h : w.ownsRow B e 1 (.slice (some ⟨g, 0, none⟩) n cap) n (sc O)) (k c : Nat) (hk : k <= n) : RdRow w 1 (.slice (some ⟨g, k, none⟩) (n - k) c) (n - k) (sc (O.drop k)) := by
 have := rdRow_drop h k c hk
 rw [scM_drop] at this
 rwa [Nat.mul_one] at this
theorem rdM_all {w : World} {ad : Addr} {O : List (List UInt8)} (c k m : Nat) (hk : k = O.length) (hm : m = 0) : RdRow w 1 (.slice (some ad) m c) m (sc (O.drop k)) := by
 subst hk hm
 rw [List.drop_length]
 exact ⟨by simp [sc], .inr ⟨_, _, rfl, fun j u hj => by simp [sc] at hj⟩⟩
theorem chgM_nil {w w' : World} {n c : Nat} (h : Chg (fun k => some k = (Value.slice none n c).ownBlock) w w') : Below w.heap.size w w' := h.toBelow (Nat.le_refl _) (fun k _ hk => by cases hk)
theorem out_at {r : Int} {v : List UInt8} : ∀ {l : List (List UInt8)} (i : Nat) (hi : i < l.length), (∀ j (hj : j < l.length), j < i -> sameQ r v l[j] = false) -> sameQ r v l[i] = true -> outQ r v l = some (l.take i ++ l.drop (i + 1)) := by
 intro l
 induction l with
 | nil => intro i hi; simp at hi
 | cons x l ih =>
  intro i hi hall hs
  unfold outQ
  cases i with
  | zero =>
   rw [if_pos (by simpa using hs)]
   simp
  | succ i =>
   have h0 := hall 0 (by simp) (by omega)
   rw [if_neg (by rw [show (x :: l)[0] = x from rfl] at h0; rw [h0]; decide)]
   rw [ih i (by simpa using hi) (fun j hj hji => hall (j + 1) (by simpa using hj) (by omega)) (by simpa using hs)]
   simp
theorem out_none {r : Int} {v : List UInt8} : ∀ {l : List (List UInt8)}, (∀ j (hj : j < l.length), sameQ r v l[j] = false) -> outQ r v l = none := by
 intro l
 induction l with
 | nil => intro _; rfl
 | cons x l ih =>
  intro hall
  unfold outQ
  have h0 := hall 0 (by simp)
  rw [if_neg (by rw [show (x :: l)[0] = x from rfl] at h0; rw [h0]; decide), ih (fun j hj => hall (j + 1) (by simpa using hj))]
  rfl
theorem ouPost_bad {o : Option (List (List UInt8))} {w w' : World} (u : Value) (h : o = none) (hb : Below w.heap.size w w') : OuPost o w (.returned (.tuple #[u, .bool false])) w' :=
 ⟨fun _ => ⟨u, rfl⟩, fun k hk => (by rw [h] at hk; cases hk), hb⟩
theorem ouPost_ok {o : Option (List (List UInt8))} {k : List (List UInt8)} {w w' : World} {u : Value} (h : o = some k) (ht : w'.ownsRow w.heap.size 9 1 u k.length (sc k)) (hb : Below w.heap.size w w') : OuPost o w (.returned (.tuple #[u, .bool true])) w' :=
 ⟨fun h2 => (by rw [h] at h2; cases h2), fun k' hk => (by rw [h] at hk; injection hk with hk; subst hk; exact ⟨u, rfl, ht⟩), hb⟩
theorem rout21_any (r : Int) (v : List UInt8) (l : List (List UInt8)) (B : Nat) (lv : Value) (w : World) (h : w.ownsRow B 9 1 lv l.length (sc l)) (hl : l.length <= 100000) :
  Calls Tryz.prog 141 #[.int .i64 r, lv, .string ⟨v.toArray⟩] w (OuPost (outQ r v l) w) := by
 have HO := Hy h
 obtain ⟨a, c, rfl, hcells⟩ := txR_owns h
 have HM := Hy hcells
 have HE := Hy (fun a w => rrequal_any r a v w)
 have HY := Hy (out_at (r := r) (v := v) (l := l))
 have HN := Hy (out_none (r := r) (v := v) (l := l))
 obtain ⟨D, hD⟩ : ∃ D, outQ r v l = D := ⟨_, rfl⟩
 rw [hD] at HY HN ⊢
 obtain ⟨n, hn⟩ : ∃ n, l.length = n := ⟨_, rfl⟩
 have HL := Hy hn
 rw [hn] at hl HO ⊢
 clear hcells hn hD h
 go_enter Tryz.func141, Tryz.ntmps141
 go_wp2
 go_loopw [8] (fun x wr => ∃ i : Nat, i <= n /\ x = .int .i64 (i : Nat) /\ Below w.heap.size w wr /\ ∀ j (hj : j < l.length), j < i -> sameQ r v l[j] = false) (fun x _ => n - (intOf x).toNat)
 case atStart => exact ⟨0, by omega, rfl, Below.refl _ _, fun j _ h => by omega⟩
 case round =>
  obtain ⟨i, hi, rfl, hb, hall⟩ := hrel
  by_cases hlt : i < n
  ·have hkl : (i : Int) < (n : Int) := by omega
   have him : i < l.length := by rw [HL.out]; exact hlt
   obtain ⟨g, o, rfl, hg, e0w⟩ := HM.out i him
   obtain ⟨cap, rfl, rfl, hcap⟩ : ∃ cap, o = 0 /\ c = cap /\ n <= cap := by
    rcases HO.out.2 with ⟨hv, _⟩ | ⟨g2, cap, cur, hv, _, hg2, hnc, _⟩
    ·injection hv with hv; cases hv
    ·injection hv with e1 _ e3
     injection e1 with e1
     injection e1 with e1 e2 _
     exact ⟨cap, e2, e3, hnc⟩
   have e0 := (hb.cell (p := ⟨g, _, none⟩) hg).trans e0w
   rw [Nat.zero_add] at e0
   have hEq := HE.out l[i] wr
   have hse := same_eq r v l[i]
   have hyes := HY.out i him hall
   have hnext := fun (hx : sameQ r v l[i] = false) x (hxl : x < l.length) (hxk : x < i + 1) => (show sameQ r v l[x] = false by
    by_cases e : x = i
    ·subst e; exact hx
    ·exact hall x hxl (by omega))
   obtain ⟨xi, hxi⟩ : ∃ x, l[i] = x := ⟨_, rfl⟩
   rw [hxi] at e0 hse hEq
   obtain ⟨q, hq⟩ : ∃ q, eqP (ruN r xi) (ruN r v) = q := ⟨_, rfl⟩
   rw [hq] at hEq hse
   have HEk := Hy hEq
   rw [hxi, hse] at hyes hnext
   have H := Hy (An hb (An hyes hnext))
   clear hb hall e0w hse hyes hnext hEq hq
   by_cases h1 : q = 1
   ·have ht : (q == 1) = true := by simp [h1]
    have HQ := Hy (H.out.2.1 ht)
    clear h1 hxi
    go_wp2_with fail
    refine HEk.out.mono ?_
    rintro en w5 ⟨rfl, hb5⟩
    have hbw := H.out.1.trans (hb5.mono H.out.1.size)
    have hO5 := ownsRow_below HO.out hbw
    have HB := Hy (An hbw hO5)
    clear hb5 hbw hO5 e0
    go_wp2_with (at_builtin; refine wpList_appendr rfl (.tmp 24) (.tmp 27) 43 9 rfl w5.heap.size 1 16 (.string ByteArray.empty) Tryz.scinfo9 Tryz.underlying43 rfl (by decide) (.slice none 0 0) 0 [] rfl (World.ownsRow_nil _ _ _ _) _ i (sc (l.take i)) rfl ?c3q4 (sc_one_cell _) ?c1q4 ?c2q4 (Nat.le_refl _) ?_)
    case c3q4 => exact rdM_take HB.out.2 i (by omega)
    try (case c1q4 => unfold maxLen; omega)
    try (case c2q4 => omega)
    intro v1 w6 g1 g2 g3
    obtain ⟨a1, z1, rfl⟩ := ownsRow_slice g1
    have g1 : w6.ownsRow w5.heap.size 9 1 (.slice a1 i z1) i (sc (l.take i)) := by simpa using g1
    have hb6 := chgM_nil g2
    have H6 := Hy (An g1 (An hb6 (ownsRow_below HB.out.2 hb6)))
    clear g1 g2 g3 hb6
    have hck : c = i + 1 \/ ¬ c = i + 1 := by omega
    rcases hck with hck | hck
    ·subst hck
     go_wp2_with (at_builtin; refine wpList_appendr rfl (.tmp 29) (.tmp 33) 43 9 rfl w5.heap.size 1 16 (.string ByteArray.empty) Tryz.scinfo9 Tryz.underlying43 rfl (by decide) (.slice a1 i z1) i (sc (l.take i)) rfl H6.out.1 _ 0 (sc (l.drop (i + 1))) rfl ?c3q9 (sc_one_cell _) ?c1q9 ?c2q9 H6.out.2.1.size ?_)
     case c3q9 => exact rdM_all _ (i + 1) _ (by rw [HL.out]; omega) (by omega)
     try (case c1q9 => unfold maxLen; omega)
     try (case c2q9 => omega)
     intro v2 w7 k1 k2 k3
     obtain ⟨a2, z2, rfl⟩ := ownsRow_slice k1
     have hb7 := below_chg H6.out.2.1 H6.out.2.1.size H6.out.1 k2
     have H7 := Hy (An k1 hb7)
     clear k1 k2 k3 hb7
     go_wp2
     go_ret2
     refine ouPost_ok HQ.out (ownsRow_base (n := _) (xs := _) ?_ (show w.heap.size <= w5.heap.size from HB.out.1.size)) (HB.out.1.trans (H7.out.2.mono HB.out.1.size))
     have h7 := H7.out.1
     rw [<- sc_append] at h7
     have hlen : (l.take i ++ l.drop (i + 1)).length = i + 0 := by rw [List.length_append, List.length_take, List.length_drop, HL.out]; omega
     rw [hlen]
     exact h7
    ·have hlt2 : i + 1 < c := by omega
     go_wp2_with (at_builtin; refine wpList_appendr rfl (.tmp 29) (.tmp 33) 43 9 rfl w5.heap.size 1 16 (.string ByteArray.empty) Tryz.scinfo9 Tryz.underlying43 rfl (by decide) (.slice a1 i z1) i (sc (l.take i)) rfl H6.out.1 _ (n - (i + 1)) (sc (l.drop (i + 1))) rfl ?c3q8 (sc_one_cell _) ?c1q8 ?c2q8 H6.out.2.1.size ?_)
     case c3q8 => exact rdM_drop H6.out.2.2 (i + 1) _ (by omega)
     try (case c1q8 => unfold maxLen; omega)
     try (case c2q8 => omega)
     intro v2 w7 k1 k2 k3
     obtain ⟨a2, z2, rfl⟩ := ownsRow_slice k1
     have hb7 := below_chg H6.out.2.1 H6.out.2.1.size H6.out.1 k2
     have H7 := Hy (An k1 hb7)
     clear k1 k2 k3 hb7
     go_wp2
     go_ret2
     refine ouPost_ok HQ.out (ownsRow_base (n := _) (xs := _) ?_ (show w.heap.size <= w5.heap.size from HB.out.1.size)) (HB.out.1.trans (H7.out.2.mono HB.out.1.size))
     have h7 := H7.out.1
     rw [<- sc_append] at h7
     have hlen : (l.take i ++ l.drop (i + 1)).length = i + (n - (i + 1)) := by rw [List.length_append, List.length_take, List.length_drop, HL.out]; omega
     rw [hlen]
     exact h7
   ·have ht : (q == 1) = false := by simpa using h1
    have HQ := Hy (H.out.2.2 ht)
    clear h1 hxi
    go_wp2_with fail
    refine HEk.out.mono ?_
    rintro en w5 ⟨rfl, hb5⟩
    have HB := Hy (H.out.1.trans (hb5.mono H.out.1.size))
    clear hb5 e0
    go_wp2
    exact ⟨⟨i + 1, by omega, by go_num, HB.out, HQ.out⟩, by simp [intOf]; omega⟩
  ·obtain rfl : i = n := by omega
   have HQ := Hy (HN.out (fun j hj => hall j hj (by rw [<- HL.out]; exact hj)))
   have HB := Hy hb
   clear hb hall
   go_wp2
   go_ret2
   exact ouPost_bad _ HQ.out HB.out
theorem rwith10_any (L : List Atr) (dn s : List UInt8) (V : List (List UInt8)) (av vv : Value) (w : World) (h : AtAt w av L) (hf : FewG 300 300 L) (hV : TxR w vv V) (hs : s.length <= 100000) (hlV : V.length <= 100000) :
  Calls Tryz.prog 139 #[.agg #[.string ⟨dn.toArray⟩, av], .string ⟨s.toArray⟩, vv] w (EnPost10 dn (clA (L ++ [(s, V)])) w) := by
 obtain ⟨a, c, rfl, hcells⟩ := h
 have h : AtAt w (.slice a L.length c) L := ⟨a, c, rfl, hcells⟩
 obtain ⟨W1, hW1⟩ : ∃ W1, (w.alloc (.cells #[.string ⟨dn.toArray⟩, .slice a L.length c] 24)).alloc (.cells #[.string ⟨#[]⟩, .slice none 0 0] 24) = W1 := ⟨_, rfl⟩
 obtain ⟨x0, x1, hb1, hz1⟩ := boxes10 hW1
 have HCl := Hy (rclean10_any dn L _ W1 (atAt_below h hb1) hf)
 have HCf := fewG_cl hf
 have HLo := Hy (fun w' => show Calls Tryz.prog 81 #[.string ⟨s.toArray⟩] w' (StrPost (lowL s) w') from rlow5_any ⟨s.toArray⟩ (by show s.length <= _; omega) w')
 have HPu := Hy (fun lv w' (hb : Below w.heap.size w w') (hp : PaAt w' lv (clA L)) => show Calls Tryz.prog 80 #[lv, .agg #[.string ⟨(lowL s).toArray⟩, vv]] w' (PaPost10 (clA (L ++ [(s, V)])) w') from put_cl L s V ▸ rput10_any (clA L) (lowL s) V lv vv w' hp (txR_below hV hb) (by have := HCf.1; omega) (fun a ha => by have := (HCf.2 a ha).2.1; omega) hlV)
 obtain ⟨va, vc, rfl, _⟩ := hV
 have HW1 := Hy hW1
 obtain ⟨n, hn⟩ : ∃ n, L.length = n := ⟨_, rfl⟩
 rw [hn] at HCl HW1 x0 ⊢
 obtain ⟨m, hm⟩ : ∃ n, V.length = n := ⟨_, rfl⟩
 rw [hm] at HPu ⊢
 obtain ⟨R, hR⟩ : ∃ R, clA L = R := ⟨_, rfl⟩
 rw [hR] at HCl HPu
 obtain ⟨Z, hZ⟩ : ∃ R, clA (L ++ [(s, V)]) = R := ⟨_, rfl⟩
 rw [hZ] at HPu ⊢
 have HX := Hy (An x1 (An hb1 hz1))
 obtain ⟨e0, e1⟩ := obj2s x0
 rw [<- hW1] at e0 e1
 clear hcells h hf x0 x1 hb1 hW1 hn hR hZ hz1 HCf hm hs hlV
 go_enter Tryz.func139, Tryz.ntmps139
 go_wp2_with fail
 rw [HW1.out]
 refine HCl.out.mono ?_
 rintro e w2 ⟨cv, rfl, hpa, hb2⟩
 clear e0 e1
 obtain ⟨ca, cc, rfl⟩ := paAt_slice hpa
 obtain ⟨rl, hrl⟩ : ∃ x, R.length = x := ⟨_, rfl⟩
 rw [hrl] at hpa ⊢
 obtain ⟨Wc, hWc⟩ : ∃ Wc, w2.alloc (.cells #[.string ⟨dn.toArray⟩, .slice ca rl cc] 24) = Wc := ⟨_, rfl⟩
 have hbc : Below w2.heap.size w2 Wc := by rw [<- hWc]; exact (Below.refl _ w2).alloc (Nat.le_refl _) _
 have yc : Wc.heap[w2.heap.size]? = some (.cells #[.string ⟨dn.toArray⟩, .slice ca rl cc] 24 (0, 0)) := by rw [<- hWc]; exact heap_alloc_new w2 _
 have hs2 := hb2.size
 have hbwc : Below w.heap.size w Wc := (HX.out.2.1.trans (hb2.mono HX.out.2.1.size)).trans (hbc.mono (by have := HX.out.2.1.size; omega))
 have x1c := obj_below (obj_below HX.out.1 hb2 (by have := HX.out.2.2; omega)) hbc (by have := HX.out.2.2; omega)
 have hpc := paAt_below hpa hbc
 have zc := obj_lt yc
 have zr := obj_lt x1c
 obtain ⟨k0, k1⟩ := obj2s yc
 obtain ⟨bc, hbcq⟩ : ∃ b, w2.heap.size = b := ⟨_, rfl⟩
 rw [hbcq] at k0 k1 zc
 have hWc : w2.alloc (.cells #[.string ⟨dn.toArray⟩, .slice ca rl cc] 24) = Wc := hWc
 have hne : bc ≠ w.heap.size + 1 := by rw [<- hbcq]; have := HX.out.2.2; omega
 have HC := Hy (An hpc (An hbwc x1c))
 have HWc := Hy (An hWc hbcq)
 clear hpa hb2 hbc yc hpc hbwc x1c hWc hrl hs2 hbcq
 go_wp2_with fail
 try rw [HWc.out.1]
 try rw [HWc.out.2]
 go_region_held3 (fun w' => w'.cell? ⟨bc, 0, none⟩ = some (.string ⟨dn.toArray⟩) /\ w'.cell? ⟨bc, 1, none⟩ = some (.slice ca rl cc)) (first | exact ⟨d0, d1⟩ | exact ⟨f0, f1⟩ | exact ⟨k0, k1⟩ | exact ⟨(cell_other2 hne _ _ _ _ _).trans d0, (cell_other2 hne _ _ _ _ _).trans d1⟩ | go_keep)
  (first
   | (go_at_call 81; (with_reducible refine (HLo.out _).mono ?_); rintro en w5 ⟨rfl, hb5⟩; have hbV : Below Wc.heap.size Wc w5 := (by first | exact (Below.refl _ Wc).drew.trans hb5 | exact hb5); have f0 := (hbV.cell (p := ⟨bc, 0, none⟩) zc).trans k0; have f1 := (hbV.cell (p := ⟨bc, 1, none⟩) zc).trans k1; clear hb5)
   | (go_at_call 80; (with_reducible refine (HPu.out _ _ (HC.out.2.1.trans (hbV.mono HC.out.2.1.size)) (paAt_below HC.out.1 hbV)).mono ?_); rintro en w6 ⟨v, rfl, hok, hb6⟩; obtain ⟨ya, yc, rfl⟩ := paAt_slice hok; have hbW : Below Wc.heap.size Wc w6 := hbV.trans (hb6.mono hbV.size); have d0 := (hbW.cell (p := ⟨bc, 0, none⟩) zc).trans k0; have d1 := (hbW.cell (p := ⟨bc, 1, none⟩) zc).trans k1; have x6 := obj_below HC.out.2.2 hbW zr; obtain ⟨s0, s1⟩ := obj2s x6; have u0 := obj_free x6 0; have u1 := obj_free x6 1; have HR := Hy (An hok (An hbW x6)); clear hok hb6 hbW x6))
 all_goals
  clear d0 d1 f0 f1 k0 k1
  go_wp2
  obtain ⟨j0, j1⟩ := obj2s (set2_e HR.out.2.2 (.string ⟨dn.toArray⟩) (.slice ya Z.length yc))
  refine bodyPost_ret (v := .agg #[.string ⟨dn.toArray⟩, .slice ya Z.length yc]) (by simp [results, Tryz.results139, go_sem, *]) rfl ?_
  exact ⟨_, rfl, paAt_set2 HR.out.1 HR.out.2.2 (by decide) (by decide) _ _, below_e2 (HC.out.2.1.trans (HR.out.2.1.mono HC.out.2.1.size)) (by omega) _ _⟩
def woQ (ls : List UInt8) (Cq : List (List UInt8 × Value)) : List (List UInt8 × Value) := Cq.filter fun q => !(q.1 == ls)
theorem woQ_step {ls : List UInt8} {Cq : List (List UInt8 × Value)} (i : Nat) (hi : i < Cq.length) : woQ ls (Cq.take (i + 1)) = if (Cq[i].1 == ls) = true then woQ ls (Cq.take i) else woQ ls (Cq.take i) ++ [Cq[i]] := by
 unfold woQ
 rw [List.take_succ_eq_append_getElem hi, List.filter_append]
 by_cases h : (Cq[i].1 == ls) = true
 ·rw [if_pos h]; simp [h]
 ·rw [if_neg h]; simp [h]
theorem rwo10_any (L : List Atr) (dn s : List UInt8) (av : Value) (w : World) (h : AtAt w av L) (hf : FewG 300 300 L) (hs : s.length <= 100000) :
  Calls Tryz.prog 140 #[.agg #[.string ⟨dn.toArray⟩, av], .string ⟨s.toArray⟩] w (EnPost10 dn (woL L s) w) := by
 obtain ⟨a, c, rfl, hcells⟩ := h
 have h : AtAt w (.slice a L.length c) L := ⟨a, c, rfl, hcells⟩
 obtain ⟨W1, hW1⟩ : ∃ W1, (w.alloc (.cells #[.string ⟨dn.toArray⟩, .slice a L.length c] 24)).alloc (.cells #[.string ⟨#[]⟩, .slice none 0 0] 24) = W1 := ⟨_, rfl⟩
 obtain ⟨x0, x1, hb1, hz1⟩ := boxes10 hW1
 have HCl := Hy (rclean10_any dn L _ W1 (atAt_below h hb1) hf)
 have hrl300 : (clA L).length <= 300 := (fewG_cl hf).1
 have HLo := Hy (fun w' => show Calls Tryz.prog 81 #[.string ⟨s.toArray⟩] w' (StrPost (lowL s) w') from rlow5_any ⟨s.toArray⟩ (by show s.length <= _; omega) w')
 have hwo : woL L s = (clA L).filter fun q => !(q.1 == lowL s) := rfl
 have HW1 := Hy hW1
 obtain ⟨n, hn⟩ : ∃ n, L.length = n := ⟨_, rfl⟩
 rw [hn] at HCl HW1 x0 ⊢
 obtain ⟨R, hR⟩ : ∃ R, clA L = R := ⟨_, rfl⟩
 rw [hR] at HCl hwo hrl300
 obtain ⟨ls, hls⟩ : ∃ x, lowL s = x := ⟨_, rfl⟩
 rw [hls] at HLo hwo
 obtain ⟨Z, hZ⟩ : ∃ R, woL L s = R := ⟨_, rfl⟩
 rw [hZ] at hwo ⊢
 have HZ := Hy hwo
 have HX := Hy (An x1 (An hb1 hz1))
 obtain ⟨e0, e1⟩ := obj2s x0
 rw [<- hW1] at e0 e1
 clear hcells h hf x0 x1 hb1 hW1 hn hR hZ hz1 hs hwo hls
 go_enter Tryz.func140, Tryz.ntmps140
 go_wp2_with fail
 rw [HW1.out]
 refine HCl.out.mono ?_
 rintro e w2 ⟨cv, rfl, hpa, hb2⟩
 clear e0 e1
 obtain ⟨ca, cc, rfl⟩ := paAt_slice hpa
 obtain ⟨rl, hrl⟩ : ∃ x, R.length = x := ⟨_, rfl⟩
 have HRl := Hy hrl
 rw [hrl] at hpa hrl300 ⊢
 obtain ⟨Wc, hWc⟩ : ∃ Wc, w2.alloc (.cells #[.string ⟨dn.toArray⟩, .slice ca rl cc] 24) = Wc := ⟨_, rfl⟩
 have hbc : Below w2.heap.size w2 Wc := by rw [<- hWc]; exact (Below.refl _ w2).alloc (Nat.le_refl _) _
 have yc : Wc.heap[w2.heap.size]? = some (.cells #[.string ⟨dn.toArray⟩, .slice ca rl cc] 24 (0, 0)) := by rw [<- hWc]; exact heap_alloc_new w2 _
 have hs2 := hb2.size
 have hbwc : Below w.heap.size w Wc := (HX.out.2.1.trans (hb2.mono HX.out.2.1.size)).trans (hbc.mono (by have := HX.out.2.1.size; omega))
 have x1c := obj_below (obj_below HX.out.1 hb2 (by have := HX.out.2.2; omega)) hbc (by have := HX.out.2.2; omega)
 have hpc := paAt_below hpa hbc
 obtain ⟨Cq, Bc, hcok, hcrow⟩ := hpc
 rw [hrl] at hcrow
 obtain ⟨bc, hbcq⟩ : ∃ b, w2.heap.size = b := ⟨_, rfl⟩
 rw [hbcq] at yc
 have HC := Hy (An hcok (An hcrow (An hbwc (An x1c yc))))
 have HWc := Hy (An hWc hbcq)
 clear hpa hb2 hbc yc hcok hcrow hbwc x1c hWc hrl hs2 hbcq
 go_wp2
 try rw [HWc.out.1]
 try rw [HWc.out.2]
 go_loopw [6, 7] (fun ov x wr => ∃ i : Nat, i <= rl /\ x = .int .i64 (i : Nat) /\ wr.ownsRow Wc.heap.size 45 2 ov (woQ ls (Cq.take i)).length (atcs (woQ ls (Cq.take i))) /\ (woQ ls (Cq.take i)).length <= i /\ Below Wc.heap.size Wc wr) (fun _ x _ => rl - (intOf x).toNat)
 case atStart => exact ⟨0, by omega, rfl, by rw [List.take_zero]; exact World.ownsRow_nil _ _ _ _, by simp [woQ], Below.refl _ _⟩
 case round =>
  obtain ⟨i, hi, rfl, hrow, hle, hb⟩ := hrel
  have hsr := hb.size
  have yc := obj_below HC.out.2.2.2.2 hb (obj_lt HC.out.2.2.2.2)
  obtain ⟨k0, k1⟩ := obj2s yc
  have zc := obj_lt yc
  have hcl := HC.out.1.1
  by_cases hlt : i < rl
  ·have hil : (i : Int) < (rl : Int) := by omega
   have him : i < R.length := by rw [HRl.out]; exact hlt
   have hiq : i < Cq.length := by omega
   obtain ⟨cg, cc', ec, hcB, hcl2⟩ := own_block HC.out.2.1 (by omega)
   injection ec with ec1 ec2 ec3
   subst ec1 ec3
   clear ec2
   obtain ⟨r1, r2⟩ := atcs_at Cq i hiq
   have c0 := (hb.cell (p := ⟨cg, _, none⟩) hcl2).trans ((HC.out.2.1.cellAt (i * 2) (by omega)).trans r1)
   have c1 := (hb.cell (p := ⟨cg, _, none⟩) hcl2).trans ((HC.out.2.1.cellAt (i * 2 + 1) (by omega)).trans r2)
   have hst := woQ_step (ls := ls) i hiq
   obtain ⟨_, Bi, hown⟩ := HC.out.1.2 i hiq him
   obtain ⟨va, vc, hvv⟩ := ownsRow_slice hown
   obtain ⟨vn, hvn⟩ : ∃ x, R[i].2.length = x := ⟨_, rfl⟩
   rw [hvn] at hvv
   obtain ⟨⟨m, vi⟩, hq⟩ : ∃ x, Cq[i] = x := ⟨_, rfl⟩
   rw [hq] at c0 c1 hst hvv
   dsimp only at c0 c1 hst hvv
   subst hvv
   have zg : cg < wr.heap.size := Nat.lt_of_lt_of_le hcl2 hsr
   obtain ⟨F, hF⟩ : ∃ F, woQ ls (Cq.take i) = F := ⟨_, rfl⟩
   rw [hF] at hrow hst hle
   obtain ⟨fl, hfl⟩ : ∃ k, F.length = k := ⟨_, rfl⟩
   rw [hfl] at hrow hle
   obtain ⟨oa, oc, rfl⟩ := ownsRow_slice hrow
   have H := Hy (An hrow (An hb (An hst hfl)))
   clear hrow hb hst hF hq hvn hown r1 r2 hcB hfl yc hcl
   cases hqm : (m == ls) with
   | true =>
    have HN := Hy (show woQ ls (Cq.take (i + 1)) = F by have := H.out.2.2.1; rw [hqm] at this; simpa using this)
    go_wp2_with fail
    go_region_held3 (fun w' => w'.cell? ⟨bc, 1, none⟩ = some (.slice (some ⟨cg, 0, none⟩) rl cc) /\ w'.cell? ⟨cg, i * 2, none⟩ = some (.string ⟨m.toArray⟩)) (first | exact ⟨d0, d1⟩ | exact ⟨k1, c0⟩ | go_keep)
     (first | (go_at_call 81; (with_reducible refine (HLo.out _).mono ?_); rintro en wz ⟨rfl, hb5⟩; have hbW : Below wr.heap.size wr wz := (by first | exact (Below.refl _ wr).drew.trans hb5 | exact hb5); have d0 := (hbW.cell (p := ⟨bc, 1, none⟩) zc).trans k1; have d1 := (hbW.cell (p := ⟨cg, i * 2, none⟩) zg).trans c0; clear hb5))
    all_goals
     have H5 := Hy hbW
     clear hbW d0 d1 k0 k1 c0 c1
     go_wp2
     exact ⟨⟨i + 1, by omega, by go_num, by rw [HN.out, H.out.2.2.2]; exact ownsRow_below H.out.1 H5.out, by rw [HN.out, H.out.2.2.2]; omega, H.out.2.1.trans (H5.out.mono H.out.2.1.size)⟩, by simp [intOf]; omega⟩
   | false =>
    have HN := Hy (show woQ ls (Cq.take (i + 1)) = F ++ [(m, .slice va vn vc)] by have := H.out.2.2.1; rw [hqm] at this; simpa using this)
    go_wp2_with fail
    go_region_held3 (fun w' => w'.cell? ⟨bc, 1, none⟩ = some (.slice (some ⟨cg, 0, none⟩) rl cc) /\ w'.cell? ⟨cg, i * 2, none⟩ = some (.string ⟨m.toArray⟩)) (first | exact ⟨d0, d1⟩ | exact ⟨k1, c0⟩ | go_keep)
     (first | (go_at_call 81; (with_reducible refine (HLo.out _).mono ?_); rintro en wz ⟨rfl, hb5⟩; have hbW : Below wr.heap.size wr wz := (by first | exact (Below.refl _ wr).drew.trans hb5 | exact hb5); have d0 := (hbW.cell (p := ⟨bc, 1, none⟩) zc).trans k1; have d1 := (hbW.cell (p := ⟨cg, i * 2, none⟩) zg).trans c0; clear hb5))
    all_goals
     have d2 := (hbW.cell (p := ⟨cg, i * 2 + 1, none⟩) zg).trans c1
     have H5 := Hy (An hbW (An (ownsRow_below H.out.1 hbW) (H.out.2.1.trans (hbW.mono H.out.2.1.size))))
     clear hbW k0 k1 c0 c1
     go_wp2_with (first
      | (at_builtin; refine wpList_pushm rfl (.tmp 26) (.tmp 32) 22 45 rfl Wc.heap.size 2 40 (.agg #[.string ByteArray.empty, .slice none 0 0]) Tryz.sninfo45 Tryz.underlying22 rfl (by decide) 1 [.string ⟨m.toArray⟩, .slice va vn vc] rfl ?c0p _ fl _ rfl _ rfl ?c3p H5.out.2.1 ?c1p ?c2p H5.out.2.2.size ?_)
      | go_in)
     case c0p => intro u hu; simp at hu; rcases hu with rfl | rfl <;> rfl
     case c1p => unfold maxLen; omega
     case c2p => omega
     case c3p => first | rfl | simp
     intro v' w7 g1 g2
     have H7 := Hy (An g1 g2)
     clear g1 g2 d0 d1 d2
     go_wp2
     refine ⟨⟨i + 1, by omega, by go_num, ?_, by rw [HN.out, List.length_append, H.out.2.2.2]; simp; omega, H5.out.2.2.trans (H7.out.2)⟩, by simp [intOf]; omega⟩
     rw [HN.out, List.length_append, H.out.2.2.2, atcs_app]
     exact H7.out.1
  ·obtain rfl : i = rl := by omega
   have hall : woQ ls (Cq.take i) = woQ ls Cq := by rw [<- HRl.out, <- hcl, List.take_length]
   rw [hall] at hrow
   have hok := atOk_filter (atOk_below HC.out.1 hb) (fun t => t == ls)
   have hZl : (woQ ls Cq).length = Z.length := by rw [HZ.out]; exact hok.1
   rw [hZl] at hrow
   have hpz : PaAt wr u6 Z := ⟨woQ ls Cq, _, by rw [HZ.out]; exact hok, hrow⟩
   obtain ⟨oa, oc, rfl⟩ := ownsRow_slice hrow
   have y1 := obj_below HC.out.2.2.2.1 hb (obj_lt HC.out.2.2.2.1)
   obtain ⟨q0, q1⟩ := obj2s y1
   have v0 := obj_free y1 0
   have v1 := obj_free y1 1
   obtain ⟨zn, hzn⟩ : ∃ k, Z.length = k := ⟨_, rfl⟩
   rw [hzn] at hpz ⊢
   have H := Hy (An hpz (An (HC.out.2.2.1.trans (hb.mono HC.out.2.2.1.size)) y1))
   clear hrow hall hok hZl hpz y1 hzn hb yc hle hcl
   go_wp2
   obtain ⟨j0, j1⟩ := obj2s (set2_e H.out.2.2 (.string ⟨dn.toArray⟩) (.slice oa zn oc))
   refine bodyPost_ret (v := .agg #[.string ⟨dn.toArray⟩, .slice oa zn oc]) (by simp [results, Tryz.results140, go_sem, *]) rfl ?_
   exact ⟨_, rfl, paAt_set2 H.out.1 H.out.2.2 (by decide) (by decide) _ _, below_e2 H.out.2.1 (by omega) _ _⟩
def GoPost (l : List (List UInt8)) (w : World) (en : Ending) (w' : World) : Prop := ∃ v B, en = .returned v /\ w'.ownsRow B 9 1 v l.length (sc l) /\ Below w.heap.size w w'
theorem rgeto_any (A : List Atr) (dn s : List UInt8) (av : Value) (w : World) (h : AtAt w av A) (hf : FewG 300 300 A) (hs : s.length <= 1000000) : Calls Tryz.prog 91 #[.agg #[.string ⟨dn.toArray⟩, av], .string ⟨s.toArray⟩] w (GoPost (geL A s) w) := by
 obtain ⟨a, c, rfl, _⟩ := id h
 obtain ⟨W, hW⟩ : ∃ W, w.alloc (.cells #[.string ⟨dn.toArray⟩, .slice a A.length c] 24) = W := ⟨_, rfl⟩
 have hb0 : Below w.heap.size w W := by rw [<- hW]; exact (Below.refl _ w).alloc (Nat.le_refl _) _
 have hg : W.heap[w.heap.size]? = some (.cells #[.string ⟨dn.toArray⟩, .slice a A.length c] 24 (0, 0)) := by rw [<- hW]; exact heap_alloc_new w _
 obtain ⟨d0, d1⟩ := obj2s hg
 have HC := Hy (rclean10_any dn A _ W (atAt_below h hb0) hf)
 have HCf := Hy (fewG_cl hf)
 have HLo := Hy (fun w' => show Calls Tryz.prog 81 #[.string ⟨s.toArray⟩] w' (StrPost (lowL s) w') from rlow5_any ⟨s.toArray⟩ (by show s.length <= _; omega) w')
 have HG := Hy (An (fun k hk h => gv_at (A := A) (s := s) (k := k) hk h) (gv_no (A := A) (s := s)))
 obtain ⟨GL, hgn⟩ : ∃ l, geL A s = l := ⟨_, rfl⟩
 have HGn := Hy hgn
 rw [hgn]
 obtain ⟨n, hn⟩ : ∃ n, A.length = n := ⟨_, rfl⟩
 rw [hn] at HC hW d1 ⊢
 obtain ⟨R, hR⟩ : ∃ R, clA A = R := ⟨_, rfl⟩
 rw [hR] at HC HCf HG
 have HB0 := Hy hb0
 have hfi : ∀ (w : World) (a : Option Addr) (n c : Nat), (Instr.field 24 (.agg #[.string ⟨dn.toArray⟩, .slice a n c]) 1).run Tryz.prog w = .ok (.slice a n c) w := fun w a n c => by kernel_rfl
 clear h hf hb0 hg hn hR hgn
 go_enter Tryz.func91, Tryz.ntmps91
 go_wp2_with fail
 refine HC.out.mono ?_
 rintro e w4 ⟨v, rfl, hpa, hb4⟩
 obtain ⟨ra, rc, rfl⟩ := paAt_slice hpa
 obtain ⟨rl, hrl⟩ : ∃ x, R.length = x := ⟨_, rfl⟩
 have HRl := Hy hrl
 have hrlb : rl <= 100000 := by have := HCf.out.1; omega
 have HP := Hy (An hpa (HB0.out.trans (hb4.mono HB0.out.size)))
 rw [hrl]
 clear hpa hb4 hrl d0 d1 hW
 go_wp2
 go_loopw [6] (fun v wr => ∃ k : Nat, k <= rl /\ v = .int .i64 (k : Nat) /\ Below w4.heap.size w4 wr /\ ∀ j (hj : j < R.length), j < k -> R[j].1 ≠ lowL s) (fun v _ => rl - (intOf v).toNat)
 case atStart => exact ⟨0, by omega, rfl, Below.refl _ _, fun j _ h => by omega⟩
 case round =>
  obtain ⟨k, hk, rfl, hb, hall⟩ := hrel
  by_cases hlt : k < rl
  ·have hkl : (k : Int) < (rl : Int) := by omega
   have hkR : k < R.length := by rw [HRl.out]; exact hlt
   obtain ⟨Lq, B, hqk, hqr⟩ := HP.out.1
   obtain ⟨rg, rc', eo, hrB, hrg⟩ := own_block hqr (by omega)
   injection eo with eo1 eo2 eo3
   subst eo1 eo3
   clear eo2
   have hkq : k < Lq.length := by rw [hqk.1]; exact hkR
   obtain ⟨h1, h2⟩ := atcs_at Lq k hkq
   obtain ⟨hn1, BB', hlist⟩ := hqk.2 k hkq hkR
   have t0 := (hb.cell (p := ⟨rg, k * 2, none⟩) hrg).trans ((hqr.cellAt (k * 2) (by omega)).trans h1)
   have t1 := (hb.cell (p := ⟨rg, k * 2 + 1, none⟩) hrg).trans ((hqr.cellAt (k * 2 + 1) (by omega)).trans h2)
   obtain ⟨xa, xc, hxv⟩ := ownsRow_slice hlist
   rw [hxv] at t1
   have hG1 := HG.out.1 k hkR
   obtain ⟨⟨t, T⟩, hrk⟩ : ∃ x, R[k] = x := ⟨_, rfl⟩
   rw [hrk] at hn1 hG1 t1
   dsimp only at hn1 hG1 t1
   rw [hn1] at t0
   have zr : rg < wr.heap.size := by have := hb.size; omega
   have H := Hy (An hb (An hall (An hG1 hrk)))
   obtain ⟨Tn, hTn⟩ : ∃ n, T.length = n := ⟨_, rfl⟩
   have HT := Hy hTn
   have HTx := Hy (show w4.ownsRow BB' 9 1 (.slice xa Tn xc) Tn (sc T) by rw [hxv] at hlist; rw [hrk] at hlist; rw [<- hTn]; exact hlist)
   rw [hTn] at t1
   clear hb hall hqk hqr hrB h1 h2 hn1 hlist hxv hG1 hrk hTn
   by_cases he : t = lowL s
   ·have q1 : (t == lowL s) = true := by simp [he]
    have HN := Hy (show GL = T by rw [<- HGn.out, H.out.2.2.1 he])
    clear he
    go_wp2_with fail
    go_region_held3 (fun w' => w'.cell? ⟨rg, k * 2, none⟩ = some (.string ⟨t.toArray⟩)) (first | exact ⟨ht0⟩ | exact ⟨t0⟩ | go_keep)
     (first | (go_at_call 81; (with_reducible refine (HLo.out _).mono ?_); rintro en wz ⟨rfl, hb5⟩; have hbW : Below wr.heap.size wr wz := (by first | exact hbW.trans (hb5.mono hbW.size) | exact (Below.refl _ wr).drew.trans hb5); have ht0 := (hbW.cell (p := ⟨rg, k * 2, none⟩) zr).trans t0; clear hb5))
    have ht1 := (hbW.cell (p := ⟨rg, k * 2 + 1, none⟩) zr).trans t1
    clear t1 t0
    go_wp2
    go_ret
    refine ⟨.slice xa Tn xc, BB', rfl, ?_, HP.out.2.trans ((H.out.1.trans (hbW.mono H.out.1.size)).mono HP.out.2.size)⟩
    rw [HN.out, HT.out]
    exact ownsRow_below HTx.out (H.out.1.trans (hbW.mono H.out.1.size))
   ·have q1 : (t == lowL s) = false := by simpa using he
    have HN := Hy (show ∀ j (hj : j < R.length), j < k + 1 -> R[j].1 ≠ lowL s from fun j hj hjk => by
     by_cases e : j = k
     ·subst e; rw [H.out.2.2.2]; exact he
     ·exact H.out.2.1 j hj (by omega))
    clear he
    go_wp2_with fail
    go_region_held3 (fun w' => w'.cell? ⟨rg, k * 2, none⟩ = some (.string ⟨t.toArray⟩)) (first | exact ⟨ht0⟩ | exact ⟨t0⟩ | go_keep)
     (first | (go_at_call 81; (with_reducible refine (HLo.out _).mono ?_); rintro en wz ⟨rfl, hb5⟩; have hbW : Below wr.heap.size wr wz := (by first | exact hbW.trans (hb5.mono hbW.size) | exact (Below.refl _ wr).drew.trans hb5); have ht0 := (hbW.cell (p := ⟨rg, k * 2, none⟩) zr).trans t0; clear hb5))
    clear t1 t0
    go_wp2
    exact ⟨⟨k + 1, by omega, by go_num, H.out.1.trans (hbW.mono H.out.1.size), HN.out⟩, by simp [intOf]; omega⟩
  ·obtain rfl : k = rl := by omega
   have HN := Hy (show GL = [] by rw [<- HGn.out]; exact HG.out.2 (fun j hj => hall j hj (by rw [<- HRl.out]; exact hj)))
   have H := Hy hb
   clear hb hall
   go_wp2
   go_ret
   refine ⟨.slice none 0 0, 0, rfl, ?_, HP.out.2.trans (H.out.mono HP.out.2.size)⟩
   rw [HN.out]
   exact World.ownsRow_nil _ _ _ _
theorem rwm21_any (L : List Atr) (dn s : List UInt8) (V : List (List UInt8)) (av vv : Value) (w : World) (h : AtAt w av L) (hf : FewG 300 300 L) (hfw : FewG 300 300 (woL L s)) (hV : TxR w vv V) (hs : s.length <= 100000) (hlV : V.length <= 100000) :
  Calls Tryz.prog 86 #[.agg #[.string ⟨dn.toArray⟩, av], .string ⟨s.toArray⟩, vv] w (EnPost10 dn (clA (woL L s ++ [(s, V)])) w) := by
 obtain ⟨a, c, rfl, hcells⟩ := h
 have h : AtAt w (.slice a L.length c) L := ⟨a, c, rfl, hcells⟩
 obtain ⟨W1, hW1⟩ : ∃ W1, (w.alloc (.cells #[.string ⟨dn.toArray⟩, .slice a L.length c] 24)).alloc (.cells #[.string ⟨#[]⟩, .slice none 0 0] 24) = W1 := ⟨_, rfl⟩
 obtain ⟨x0, x1, hb1, hz1⟩ := boxes10 hW1
 have HWo := Hy (rwo10_any L dn s _ W1 (atAt_below h hb1) hf hs)
 have HWi := Hy (fun v w' (hb : Below w.heap.size w w') (hp : PaAt w' v (woL L s)) => rwith10_any (woL L s) dn s V v vv w' (eaAt_at (paAt_ea hp)) hfw (txR_below hV hb) hs hlV)
 obtain ⟨va, vc, rfl, _⟩ := hV
 have HW1 := Hy hW1
 obtain ⟨n, hn⟩ : ∃ n, L.length = n := ⟨_, rfl⟩
 rw [hn] at HWo HW1 x0 ⊢
 obtain ⟨m, hm⟩ : ∃ n, V.length = n := ⟨_, rfl⟩
 rw [hm] at HWi ⊢
 obtain ⟨Z, hZ⟩ : ∃ R, clA (woL L s ++ [(s, V)]) = R := ⟨_, rfl⟩
 rw [hZ] at HWi ⊢
 have HX := Hy (An x1 hb1)
 have z1 : w.heap.size + 1 < W1.heap.size := by omega
 obtain ⟨e0, e1⟩ := obj2s x0
 rw [<- hW1] at e0 e1
 clear hcells h hf hfw x0 x1 hb1 hW1 hn hZ hz1 hs hm hlV
 go_enter Tryz.func86, Tryz.ntmps86
 go_wp2_with fail
 rw [HW1.out]
 with_reducible refine HWo.out.mono ?_
 rintro e w2 ⟨cv, rfl, hpa, hb2⟩
 clear e0 e1
 have HWi2 := Hy (HWi.out cv w2 (HX.out.2.trans (hb2.mono HX.out.2.size)) hpa)
 obtain ⟨ca, cc, rfl⟩ := paAt_slice hpa
 have H2 := Hy hb2
 clear hpa hb2
 go_wp2_with fail
 with_reducible refine HWi2.out.mono ?_
 rintro e w3 ⟨cv, rfl, hpa, hb3⟩
 obtain ⟨xa, xc, rfl⟩ := paAt_slice hpa
 have hb13 := H2.out.trans (hb3.mono H2.out.size)
 have x3 := obj_below HX.out.1 hb13 z1
 obtain ⟨q0, q1⟩ := obj2s x3
 have u0 := obj_free x3 0
 have u1 := obj_free x3 1
 obtain ⟨zn, hzn⟩ : ∃ k, Z.length = k := ⟨_, rfl⟩
 rw [hzn] at hpa ⊢
 have H3 := Hy (An hpa (An (HX.out.2.trans (hb13.mono HX.out.2.size)) x3))
 clear hpa hb3 hb13 x3 hzn
 go_wp2
 obtain ⟨j0, j1⟩ := obj2s (set2_e H3.out.2.2 (.string ⟨dn.toArray⟩) (.slice xa zn xc))
 refine bodyPost_ret (v := .agg #[.string ⟨dn.toArray⟩, .slice xa zn xc]) (by simp [results, Tryz.results86, go_sem, *]) rfl ?_
 exact ⟨_, rfl, paAt_set2 H3.out.1 H3.out.2.2 (by decide) (by decide) _ _, below_e2 H3.out.2.1 (by omega) _ _⟩
theorem boxesD {w W1 : World} {d e i j k f g : Value} (h : ((w.alloc (.cells #[d, e] 24)).alloc (.cells #[i, j, k] 47)).alloc (.cells #[f, g] 24) = W1) :
  W1.heap[w.heap.size]? = some (.cells #[d, e] 24 (0, 0)) /\ W1.heap[w.heap.size + 1]? = some (.cells #[i, j, k] 47 (0, 0)) /\ W1.heap[w.heap.size + 1 + 1]? = some (.cells #[f, g] 24 (0, 0)) /\ Below w.heap.size w W1 /\ W1.heap.size = w.heap.size + 3 := by
 obtain ⟨W0, hW0⟩ : ∃ W, w.alloc (.cells #[d, e] 24) = W := ⟨_, rfl⟩
 rw [hW0] at h
 obtain ⟨W2, hW2⟩ : ∃ W, W0.alloc (.cells #[i, j, k] 47) = W := ⟨_, rfl⟩
 rw [hW2] at h
 have s0 : W0.heap.size = w.heap.size + 1 := by rw [<- hW0]; simp
 have s2 : W2.heap.size = w.heap.size + 1 + 1 := by rw [<- hW2]; simp [s0]
 have y0 : W0.heap[w.heap.size]? = some (.cells #[d, e] 24 (0, 0)) := by rw [<- hW0]; exact heap_alloc_new w _
 have y2 : W2.heap[w.heap.size + 1]? = some (.cells #[i, j, k] 47 (0, 0)) := by rw [<- hW2, <- s0]; exact heap_alloc_new W0 _
 have y3 : W1.heap[w.heap.size + 1 + 1]? = some (.cells #[f, g] 24 (0, 0)) := by rw [<- h, <- s2]; exact heap_alloc_new W2 _
 have b0 : Below w.heap.size w W0 := by rw [<- hW0]; exact (Below.refl _ w).alloc (Nat.le_refl _) _
 refine ⟨?_, ?_, y3, ?_, by rw [<- h]; simp [s2]⟩
 ·rw [<- h, <- hW2]; exact obj_alloc (obj_alloc y0 _) _
 ·rw [<- h]; exact obj_alloc y2 _
 ·rw [<- h, <- hW2]; exact (b0.alloc b0.size _).alloc (by simp; omega) _
theorem rad_way (r : Int) (L : List Atr) (n : List UInt8) (vs : List (List UInt8)) : (vs.length = 0 /\ (mdAdd r L n vs).2 = 19) \/ (vs.length ≠ 0 /\ mdTw r vs = true /\ (mdAdd r L n vs).2 = 20) \/
  (vs.length ≠ 0 /\ mdTw r vs = false /\ (∀ i (hi : i < vs.length), ((geL L n).any (sameQ r vs[i])) = true -> (mdAdd r L n vs).2 = 20) /\ ((∀ i (hi : i < vs.length), ((geL L n).any (sameQ r vs[i])) = false) -> mdAdd r L n vs = (clA (L ++ [(n, vs)]), 0))) := by
 unfold mdAdd
 by_cases h0 : vs = []
 ·left; rw [if_pos h0]; exact ⟨by rw [h0]; rfl, rfl⟩
 ·right
  have hl : vs.length ≠ 0 := fun h => h0 (List.length_eq_zero_iff.1 h)
  rw [if_neg h0]
  cases h1 : mdTw r vs with
  | true => left; exact ⟨hl, rfl, by simp⟩
  | false =>
   right
   refine ⟨hl, rfl, fun i hi h => ?_, fun h => ?_⟩
   ·rw [if_neg (by simp), if_pos]
    rw [List.any_eq_true]
    exact ⟨vs[i], List.getElem_mem hi, h⟩
   ·rw [if_neg (by simp), if_neg]
    rw [List.any_eq_true]
    rintro ⟨v, hv, h2⟩
    obtain ⟨i, hi, rfl⟩ := List.getElem_of_mem hv
    rw [h i hi] at h2; cases h2
theorem rad21_any (op r : Int) (L : List Atr) (dn n : List UInt8) (vs : List (List UInt8)) (av vv : Value) (w : World) (hE : EaAt w av L) (hf : FewG 200 200 L) (hV : TxR w vv vs) (hvl : vs.length <= 1000) (hnl : n.length <= 100000) :
  Calls Tryz.prog 83 #[.agg #[.string ⟨dn.toArray⟩, av], .int .i64 r, .agg #[.int .i64 op, .string ⟨n.toArray⟩, vv]] w (MdPost dn (mdAdd r L n vs) w) := by
 have hf3 : FewG 300 300 L := fewG_mono hf (by omega) (by omega)
 have hway := rad_way r L n vs
 obtain ⟨va, vc, rfl, hVc⟩ := hV
 have hV : TxR w (.slice va vs.length vc) vs := ⟨va, vc, rfl, hVc⟩
 obtain ⟨a, c, rfl⟩ := eaAt_slice hE
 have hAt := eaAt_at hE
 obtain ⟨W1, hW1⟩ : ∃ W, ((w.alloc (.cells #[.string ⟨dn.toArray⟩, .slice a L.length c] 24)).alloc (.cells #[.int .i64 op, .string ⟨n.toArray⟩, .slice va vs.length vc] 47)).alloc (.cells #[.string ⟨#[]⟩, .slice none 0 0] 24) = W := ⟨_, rfl⟩
 obtain ⟨x0, x1, x2, hb1, hz1⟩ := boxesD hW1
 have HTw := Hy (rtw21_any r vs _ W1 (txR_below hV hb1) (by omega))
 have HHas := Hy (fun w' (hb : Below w.heap.size w w') x => rhas10_any L dn n x r (.slice a L.length c) w' (atAt_below hAt hb) hf3 (by omega))
 have HWi := Hy (fun w' (hb : Below w.heap.size w w') => rwith10_any L dn n vs (.slice a L.length c) (.slice va vs.length vc) w' (atAt_below hAt hb) hf3 (txR_below hV hb) hnl (by omega))
 have HVc := Hy hVc
 have HX := Hy (An x0 (An x1 (An x2 (An hb1 hz1))))
 have HW1 := Hy hW1
 obtain ⟨P, hP⟩ : ∃ P, mdAdd r L n vs = P := ⟨_, rfl⟩
 rw [hP] at hway ⊢
 obtain ⟨Z, hZ⟩ : ∃ P, clA (L ++ [(n, vs)]) = P := ⟨_, rfl⟩
 rw [hZ] at hway HWi
 obtain ⟨T, hT⟩ : ∃ P, mdTw r vs = P := ⟨_, rfl⟩
 rw [hT] at hway HTw
 obtain ⟨ln, hln⟩ : ∃ k, L.length = k := ⟨_, rfl⟩
 rw [hln] at HW1 HX HHas HWi ⊢
 obtain ⟨m, hm⟩ : ∃ k, vs.length = k := ⟨_, rfl⟩
 have HM := Hy hm
 rw [hm] at HW1 HX HTw HWi hvl ⊢
 have hway2 : (m = 0 /\ P.2 = 19) \/ (m ≠ 0 /\ T = true /\ P.2 = 20) \/ (m ≠ 0 /\ T = false /\ (∀ i (hi : i < vs.length), ((geL L n).any (sameQ r vs[i])) = true -> P.2 = 20) /\ ((∀ i (hi : i < vs.length), ((geL L n).any (sameQ r vs[i])) = false) -> P = (Z, 0))) := by rw [<- hm]; exact hway
 have z0 : w.heap.size < W1.heap.size := by omega
 have z1 : w.heap.size + 1 < W1.heap.size := by omega
 have z2 : w.heap.size + 1 + 1 < W1.heap.size := by omega
 have hne1 : w.heap.size ≠ w.heap.size + 1 + 1 := by omega
 obtain ⟨e0, e1⟩ := obj2s HX.out.1
 obtain ⟨m0, m1, m2⟩ := obj3 HX.out.2.1
 obtain ⟨q0, q1⟩ := obj2s HX.out.2.2.1
 have u0 := obj_free HX.out.2.2.1 0
 have u1 := obj_free HX.out.2.2.1 1
 clear hE hf hf3 hV hVc hnl hAt x0 x1 x2 hb1 hz1 hW1 hP hZ hT hln hm hway
 rcases hway2 with ⟨h0, h19⟩ | ⟨h0, hTt, h20⟩ | ⟨h0, hTf, hyes, hno⟩
 ·have HP := Hy h19
  subst h0
  clear h19
  rw [<- HW1.out] at e0 e1 q0 q1 u0 u1 m2
  go_enter Tryz.func83, Tryz.ntmps83
  go_wp2
  try rw [HW1.out]
  obtain ⟨j0, j1⟩ := obj2s (set2_e HX.out.2.2.1 (.string ⟨dn.toArray⟩) (.slice a ln c))
  refine bodyPost_ret (v := .tuple #[.agg #[.string ⟨dn.toArray⟩, .slice a ln c], .int .i64 19]) (by simp [results, Tryz.results83, go_sem, *]) rfl ?_
  first | exact mdPost_bad HP.out (by decide) (below_e2 HX.out.2.2.2.1 (by omega) _ _) | exact mdPost_bad HP.out (by decide) ((((Below.refl _ w).alloc (Nat.le_refl _) _).alloc (by simp) _).alloc (by simp; omega) _)
 ·have HP := Hy h20
  have hm0 : ¬ ((m : Int) = 0) := by omega
  subst hTt
  clear h20
  go_enter Tryz.func83, Tryz.ntmps83
  go_wp2_with fail
  rw [HW1.out]
  with_reducible refine HTw.out.mono ?_
  rintro en w2 ⟨rfl, hb2⟩
  have hbw := HX.out.2.2.2.1.trans (hb2.mono HX.out.2.2.2.1.size)
  have y0 := obj_below HX.out.1 hb2 z0
  have y2 := obj_below HX.out.2.2.1 hb2 z2
  clear e0 e1 q0 q1 u0 u1 m0 m1 m2
  obtain ⟨e0, e1⟩ := obj2s y0
  obtain ⟨q0, q1⟩ := obj2s y2
  have u0 := obj_free y2 0
  have u1 := obj_free y2 1
  have H2 := Hy (An hbw y2)
  clear hb2 hbw y0 y2
  go_wp2
  obtain ⟨j0, j1⟩ := obj2s (set2_e H2.out.2 (.string ⟨dn.toArray⟩) (.slice a ln c))
  refine bodyPost_ret (v := .tuple #[.agg #[.string ⟨dn.toArray⟩, .slice a ln c], .int .i64 20]) (by simp [results, Tryz.results83, go_sem, *]) rfl ?_
  exact mdPost_bad HP.out (by decide) (below_e2 H2.out.1 (by omega) _ _)
 ·have HY := Hy hyes
  have HN := Hy hno
  have hm0 : ¬ ((m : Int) = 0) := by omega
  subst hTf
  clear hyes hno
  go_enter Tryz.func83, Tryz.ntmps83
  go_wp2_with fail
  rw [HW1.out]
  with_reducible refine HTw.out.mono ?_
  rintro en w2 ⟨rfl, hb2⟩
  have H2 := Hy hb2
  clear hb2 e0 e1 q0 q1 u0 u1 m0 m1 m2
  go_wp2
  go_loopw [8] (fun x wr => ∃ i : Nat, i <= m /\ x = .int .i64 (i : Nat) /\ Below W1.heap.size W1 wr /\ ∀ j (hj : j < vs.length), j < i -> ((geL L n).any (sameQ r vs[j])) = false) (fun x _ => m - (intOf x).toNat)
  case atStart => exact ⟨0, by omega, rfl, H2.out, fun j _ h => by omega⟩
  case round =>
   obtain ⟨i, hi, rfl, hb, hall⟩ := hrel
   have hbw := HX.out.2.2.2.1.trans (hb.mono HX.out.2.2.2.1.size)
   have y0 := obj_below HX.out.1 hb z0
   have y1 := obj_below HX.out.2.1 hb z1
   have y2 := obj_below HX.out.2.2.1 hb z2
   obtain ⟨e0, e1⟩ := obj2s y0
   obtain ⟨m0, m1, m2⟩ := obj3 y1
   obtain ⟨q0, q1⟩ := obj2s y2
   have u0 := obj_free y2 0
   have u1 := obj_free y2 1
   by_cases hlt : i < m
   ·have hil : (i : Int) < (m : Int) := by omega
    have him : i < vs.length := by rw [HM.out]; exact hlt
    obtain ⟨g, o, rfl, hg, c0w⟩ := HVc.out i him
    have c0 := (hbw.cell (p := ⟨g, _, none⟩) hg).trans c0w
    have hH := HHas.out wr hbw vs[i]
    have hy := HY.out i him
    have hnext := fun (hx : ((geL L n).any (sameQ r vs[i])) = false) j (hj : j < vs.length) (hjk : j < i + 1) => (show ((geL L n).any (sameQ r vs[j])) = false by
     by_cases e : j = i
     ·subst e; exact hx
     ·exact hall j hj (by omega))
    obtain ⟨b, hbb⟩ : ∃ b, ((geL L n).any (sameQ r vs[i])) = b := ⟨_, rfl⟩
    rw [hbb] at hH hy hnext
    obtain ⟨x, hx⟩ : ∃ x, vs[i] = x := ⟨_, rfl⟩
    rw [hx] at c0 hH
    have HHx := Hy (fun w' (hb' : Below wr.heap.size wr w') => show Calls Tryz.prog 44 #[.agg #[.string ⟨dn.toArray⟩, .slice a ln c], .string ⟨n.toArray⟩, .string ⟨x.toArray⟩, .int .i64 r] w' (BB b w') from by have h := HHas.out w' (hbw.trans (hb'.mono hbw.size)) vs[i]; rw [hbb, hx] at h; exact h)
    have zr0 := obj_lt y0
    have zr1 := obj_lt y1
    have zr2 := obj_lt y2
    have zg := Nat.lt_of_lt_of_le hg hbw.size
    have H := Hy (An hb (An hbw (An hy (An hnext y2))))
    clear hb hbw hy hnext hall hH hbb hx y0 y1 y2 c0w q0 q1 u0 u1 m0
    go_wp2_with fail
    go_region_held3 (fun w' => w'.cell? ⟨w.heap.size, 0, none⟩ = some (.string ⟨dn.toArray⟩) /\ w'.cell? ⟨w.heap.size, 1, none⟩ = some (.slice a ln c) /\ w'.cell? ⟨w.heap.size + 1, 1, none⟩ = some (.string ⟨n.toArray⟩) /\ w'.cell? ⟨w.heap.size + 1, 2, none⟩ = some (.slice (some ⟨g, o, none⟩) m vc) /\ w'.cell? ⟨g, o + i, none⟩ = some (.string ⟨x.toArray⟩)) (first | exact ⟨d0, d1, d2, d3, d4⟩ | exact ⟨e0, e1, m1, m2, c0⟩ | go_keep)
     (first | (go_at_call 44; (with_reducible refine (HHx.out _ (by first | exact (Below.refl _ _).drew | exact Below.refl _ _)).mono ?_); rintro en wz ⟨rfl, hb5⟩; have hbW : Below wr.heap.size wr wz := (by first | exact (Below.refl _ wr).drew.trans hb5 | exact hb5); have d0 := (hbW.cell (p := ⟨w.heap.size, 0, none⟩) zr0).trans e0; have d1 := (hbW.cell (p := ⟨w.heap.size, 1, none⟩) zr0).trans e1; have d2 := (hbW.cell (p := ⟨w.heap.size + 1, 1, none⟩) zr1).trans m1; have d3 := (hbW.cell (p := ⟨w.heap.size + 1, 2, none⟩) zr1).trans m2; have d4 := (hbW.cell (p := ⟨g, _, none⟩) zg).trans c0; clear hb5))
    all_goals
     have y2 := obj_below H.out.2.2.2.2 hbW zr2
     have H5 := Hy (An (H.out.1.trans (hbW.mono H.out.1.size)) (An (H.out.2.1.trans (hbW.mono H.out.2.1.size)) y2))
     clear hbW e0 e1 m1 m2 c0 d4 d3 d2
     cases b with
     | true =>
      have HP := Hy (H.out.2.2.1 rfl)
      obtain ⟨q0, q1⟩ := obj2s y2
      have u0 := obj_free y2 0
      have u1 := obj_free y2 1
      clear y2
      go_wp2
      obtain ⟨j0, j1⟩ := obj2s (set2_e H5.out.2.2 (.string ⟨dn.toArray⟩) (.slice a ln c))
      refine bodyPost_ret (v := .tuple #[.agg #[.string ⟨dn.toArray⟩, .slice a ln c], .int .i64 20]) (by simp [results, Tryz.results83, go_sem, *]) rfl ?_
      exact mdPost_bad HP.out (by decide) (below_e2 H5.out.2.1 (by omega) _ _)
     | false =>
      have HQ := Hy (H.out.2.2.2.1 rfl)
      clear y2 d0 d1
      go_wp2
      exact ⟨⟨i + 1, by omega, by go_num, H5.out.1, HQ.out⟩, by simp [intOf]; omega⟩
   ·obtain rfl : i = m := by omega
    have HP := Hy (HN.out (fun j hj => hall j hj (by rw [<- HM.out]; exact hj)))
    have HWr := Hy (HWi.out wr hbw)
    have H := Hy (An hbw y2)
    clear hb hbw hall y0 y1 y2 q0 q1 u0 u1 m0
    go_wp2_with fail
    with_reducible refine HWr.out.mono ?_
    rintro en w6 ⟨v, rfl, hpa, hb6⟩
    obtain ⟨ra, rc, rfl⟩ := paAt_slice hpa
    have x6 := obj_below H.out.2 hb6 (obj_lt H.out.2)
    obtain ⟨q0, q1⟩ := obj2s x6
    have u0 := obj_free x6 0
    have u1 := obj_free x6 1
    obtain ⟨rn, hrn⟩ : ∃ k, Z.length = k := ⟨_, rfl⟩
    rw [hrn] at hpa ⊢
    have H6 := Hy (An hpa (An (H.out.1.trans (hb6.mono H.out.1.size)) x6))
    clear hpa hb6 x6 e0 e1 m1 m2 hrn
    go_wp2
    obtain ⟨j0, j1⟩ := obj2s (set2_e H6.out.2.2 (.string ⟨dn.toArray⟩) (.slice ra rn rc))
    refine bodyPost_ret (v := .tuple #[.agg #[.string ⟨dn.toArray⟩, .slice ra rn rc], .int .i64 0]) (by simp [results, Tryz.results83, go_sem, *]) rfl ?_
    exact mdPost_ok HP.out (paAt_set2 H6.out.1 H6.out.2.2 (by decide) (by decide) _ _) (below_e2 H6.out.2.1 (by omega) _ _)
theorem dropQ_step {r : Int} {l : List (List UInt8)} {vs : List (List UInt8)} (i : Nat) (hi : i < vs.length) : dropQ r l (vs.drop i) = match outQ r vs[i] l with
  | none => none
  | some k => dropQ r k (vs.drop (i + 1)) := by
 rw [List.drop_eq_getElem_cons hi]; rfl
theorem rdr_way (r : Int) (L : List Atr) (n : List UInt8) (vs : List (List UInt8)) : (vs.length = 0 /\ geL L n = [] /\ (mdDel r L n vs).2 = 16) \/ (vs.length = 0 /\ geL L n ≠ [] /\ mdDel r L n vs = (woL L n, 0)) \/
  (vs.length ≠ 0 /\ (dropQ r (geL L n) (vs.drop 0) = none -> (mdDel r L n vs).2 = 16) /\ (∀ l, dropQ r (geL L n) (vs.drop 0) = some l -> mdDel r L n vs = (clA (woL L n ++ [(n, l)]), 0))) := by
 unfold mdDel
 by_cases h0 : vs = []
 ·rw [if_pos h0]
  by_cases h1 : geL L n = []
  ·left; rw [if_pos h1]; exact ⟨by rw [h0]; rfl, h1, rfl⟩
  ·right; left; rw [if_neg h1]; exact ⟨by rw [h0]; rfl, h1, rfl⟩
 ·right; right
  rw [if_neg h0, List.drop_zero]
  refine ⟨fun h => h0 (List.length_eq_zero_iff.1 h), fun h => by rw [h], fun l h => by rw [h]⟩
theorem rdr21_any (op r : Int) (L : List Atr) (dn n : List UInt8) (vs : List (List UInt8)) (av vv : Value) (w : World) (hE : EaAt w av L) (hC : Cln 200 200 L) (hV : TxR w vv vs) (hvl : vs.length <= 1000) (hnl : n.length <= 100000) :
  Calls Tryz.prog 84 #[.agg #[.string ⟨dn.toArray⟩, av], .int .i64 r, .agg #[.int .i64 op, .string ⟨n.toArray⟩, vv]] w (MdPost dn (mdDel r L n vs) w) := by
 have hf3 : FewG 300 300 L := fewG_mono hC.few (by omega) (by omega)
 have hfw : FewG 300 300 (woL L n) := fewG_mono (cln_wo hC n).few (by omega) (by omega)
 have hway := rdr_way r L n vs
 obtain ⟨va, vc, rfl, hVc⟩ := hV
 have hV : TxR w (.slice va vs.length vc) vs := ⟨va, vc, rfl, hVc⟩
 obtain ⟨a, c, rfl⟩ := eaAt_slice hE
 have hAt := eaAt_at hE
 obtain ⟨W1, hW1⟩ : ∃ W, ((w.alloc (.cells #[.string ⟨dn.toArray⟩, .slice a L.length c] 24)).alloc (.cells #[.int .i64 op, .string ⟨n.toArray⟩, .slice va vs.length vc] 47)).alloc (.cells #[.string ⟨#[]⟩, .slice none 0 0] 24) = W := ⟨_, rfl⟩
 obtain ⟨x0, x1, x2, hb1, hz1⟩ := boxesD hW1
 have HGe := Hy (rgeto_any L dn n (.slice a L.length c) W1 (atAt_below hAt hb1) hf3 (by omega))
 have HWo := Hy (fun w' (hb : Below w.heap.size w w') => rwo10_any L dn n (.slice a L.length c) w' (atAt_below hAt hb) hf3 hnl)
 have HOu := Hy (fun x l B lv w' (h : w'.ownsRow B 9 1 lv l.length (sc l)) (hl : l.length <= 100000) => rout21_any r x l B lv w' h hl)
 have HWm := Hy (fun V kv w' (hb : Below w.heap.size w w') (hk : TxR w' kv V) (hl : V.length <= 100000) => rwm21_any L dn n V (.slice a L.length c) kv w' (atAt_below hAt hb) hf3 hfw hk hnl hl)
 have HGl := Hy (cln_ge hC n)
 have HVc := Hy hVc
 have HX := Hy (An x0 (An x1 (An x2 (An hb1 hz1))))
 have HW1 := Hy hW1
 obtain ⟨P, hP⟩ : ∃ P, mdDel r L n vs = P := ⟨_, rfl⟩
 rw [hP] at hway ⊢
 obtain ⟨WO, hWO⟩ : ∃ P, woL L n = P := ⟨_, rfl⟩
 rw [hWO] at hway HWo HWm
 obtain ⟨G, hG⟩ : ∃ P, geL L n = P := ⟨_, rfl⟩
 rw [hG] at hway HGe HGl
 obtain ⟨ln, hln⟩ : ∃ k, L.length = k := ⟨_, rfl⟩
 rw [hln] at HW1 HX HGe HWo HWm ⊢
 obtain ⟨m, hm⟩ : ∃ k, vs.length = k := ⟨_, rfl⟩
 have HM := Hy hm
 rw [hm] at HW1 HX hvl hway ⊢
 have HSt := Hy (fun l i hi => dropQ_step (r := r) (l := l) (vs := vs) i hi)
 have HEn := Hy (fun l => show dropQ r l (vs.drop m) = some l by rw [<- hm, List.drop_length]; rfl)
 have z0 : w.heap.size < W1.heap.size := by omega
 have z1 : w.heap.size + 1 < W1.heap.size := by omega
 have z2 : w.heap.size + 1 + 1 < W1.heap.size := by omega
 obtain ⟨e0, e1⟩ := obj2s HX.out.1
 obtain ⟨m0, m1, m2⟩ := obj3 HX.out.2.1
 clear hE hf3 hfw hC hV hVc hnl hAt x0 x1 x2 hb1 hz1 hW1 hP hWO hG hln hm
 go_enter Tryz.func84, Tryz.ntmps84
 go_wp2_with fail
 rw [HW1.out]
 with_reducible refine HGe.out.mono ?_
 rintro en w2 ⟨gv, B, rfl, hrow, hb2⟩
 have hbw := HX.out.2.2.2.1.trans (hb2.mono HX.out.2.2.2.1.size)
 have y0 := obj_below HX.out.1 hb2 z0
 have y1 := obj_below HX.out.2.1 hb2 z1
 have y2 := obj_below HX.out.2.2.1 hb2 z2
 clear e0 e1 m0 m1 m2
 obtain ⟨e0, e1⟩ := obj2s y0
 obtain ⟨m0, m1, m2⟩ := obj3 y1
 obtain ⟨q0, q1⟩ := obj2s y2
 have u0 := obj_free y2 0
 have u1 := obj_free y2 1
 obtain ⟨ga, gc, rfl⟩ := ownsRow_slice hrow
 obtain ⟨gl, hgl⟩ : ∃ k, G.length = k := ⟨_, rfl⟩
 have HGll := Hy hgl
 rw [hgl] at hrow ⊢
 have H2 := Hy (An hbw (An y0 (An y1 (An y2 (An hrow hb2)))))
 clear hb2 hbw y0 y1 y2 hrow hgl
 rcases hway with ⟨h0, hg0, h16⟩ | ⟨h0, hg0, hok⟩ | ⟨h0, hno, hyes⟩
 ·have HP := Hy h16
  have hgz : gl = 0 := by rw [<- HGll.out, hg0]; rfl
  have hm0 : (m : Int) = 0 := by omega
  have hg1 : (gl : Int) = 0 := by omega
  clear h16 hg0 h0 hgz
  go_wp2
  obtain ⟨j0, j1⟩ := obj2s (set2_e H2.out.2.2.2.1 (.string ⟨dn.toArray⟩) (.slice a ln c))
  refine bodyPost_ret (v := .tuple #[.agg #[.string ⟨dn.toArray⟩, .slice a ln c], .int .i64 16]) (by simp [results, Tryz.results84, go_sem, *]) rfl ?_
  exact mdPost_bad HP.out (by decide) (below_e2 H2.out.1 (by omega) _ _)
 ·have HP := Hy hok
  have hm0 : (m : Int) = 0 := by omega
  have hg1 : ¬ (gl : Int) = 0 := by
   intro h
   have : gl = 0 := by omega
   exact hg0 (List.length_eq_zero_iff.1 (HGll.out.trans this))
  have HWr := Hy (HWo.out w2 H2.out.1)
  clear hok hg0 h0 q0 q1 u0 u1
  go_wp2_with fail
  with_reducible refine HWr.out.mono ?_
  rintro en w6 ⟨v, rfl, hpa, hb6⟩
  obtain ⟨ra, rc, rfl⟩ := paAt_slice hpa
  have x6 := obj_below H2.out.2.2.2.1 hb6 (obj_lt H2.out.2.2.2.1)
  obtain ⟨q0, q1⟩ := obj2s x6
  have u0 := obj_free x6 0
  have u1 := obj_free x6 1
  obtain ⟨rn, hrn⟩ : ∃ k, WO.length = k := ⟨_, rfl⟩
  rw [hrn] at hpa ⊢
  have H6 := Hy (An hpa (An (H2.out.1.trans (hb6.mono H2.out.1.size)) x6))
  clear hpa hb6 x6 e0 e1 m0 m1 m2 hrn
  go_wp2
  obtain ⟨j0, j1⟩ := obj2s (set2_e H6.out.2.2 (.string ⟨dn.toArray⟩) (.slice ra rn rc))
  refine bodyPost_ret (v := .tuple #[.agg #[.string ⟨dn.toArray⟩, .slice ra rn rc], .int .i64 0]) (by simp [results, Tryz.results84, go_sem, *]) rfl ?_
  exact mdPost_ok HP.out (paAt_set2 H6.out.1 H6.out.2.2 (by decide) (by decide) _ _) (below_e2 H6.out.2.1 (by omega) _ _)
 ·have hm0 : ¬ (m : Int) = 0 := by omega
  have hmb : ((m : Int) == 0) = false := by simpa using hm0
  have HNo := Hy hno
  have HYes := Hy hyes
  clear hno hyes h0 e0 e1 m0 m1 m2 q0 q1 u0 u1
  obtain ⟨e0, e1⟩ := obj2s H2.out.2.1
  obtain ⟨m0, m1, m2⟩ := obj3 H2.out.2.2.1
  go_wp2
  clear e0 e1 m0 m1 m2
  go_loopw [8, 9] (fun lv x wr => ∃ (i : Nat) (l : List (List UInt8)) (B' : Nat), i <= m /\ x = .int .i64 (i : Nat) /\ wr.ownsRow B' 9 1 lv l.length (sc l) /\ dropQ r G (vs.drop 0) = dropQ r l (vs.drop i) /\ l.length <= 1000 /\ Below w2.heap.size w2 wr) (fun _ x _ => m - (intOf x).toNat)
  case atStart => exact ⟨0, G, B, by omega, rfl, by rw [HGll.out]; exact H2.out.2.2.2.2.1, rfl, by have := HGl.out.1; omega, Below.refl _ _⟩
  case round =>
   obtain ⟨i, l, B', hi, rfl, hrow, hdq, hll, hb⟩ := hrel
   have hbw := H2.out.1.trans (hb.mono H2.out.1.size)
   have y0 := obj_below H2.out.2.1 hb (obj_lt H2.out.2.1)
   have y1 := obj_below H2.out.2.2.1 hb (obj_lt H2.out.2.2.1)
   have y2 := obj_below H2.out.2.2.2.1 hb (obj_lt H2.out.2.2.2.1)
   obtain ⟨e0, e1⟩ := obj2s y0
   obtain ⟨m0, m1, m2⟩ := obj3 y1
   obtain ⟨la, lc, rfl⟩ := ownsRow_slice hrow
   obtain ⟨ll, hlln⟩ : ∃ k, l.length = k := ⟨_, rfl⟩
   by_cases hlt : i < m
   ·have hil : (i : Int) < (m : Int) := by omega
    have him : i < vs.length := by rw [HM.out]; exact hlt
    obtain ⟨g, o, rfl, hg, c0w⟩ := HVc.out i him
    have c0 := (hbw.cell (p := ⟨g, _, none⟩) hg).trans c0w
    have hst := HSt.out l i him
    have hOu := HOu.out vs[i] l B' (.slice la l.length lc) wr hrow (by omega)
    obtain ⟨x, hx⟩ : ∃ x, vs[i] = x := ⟨_, rfl⟩
    rw [hx] at c0 hst hOu
    obtain ⟨oq, hoq⟩ : ∃ q, outQ r x l = q := ⟨_, rfl⟩
    have hlen : ∀ k, oq = some k -> k.length <= 1000 := fun k hk => by have := (out_len (hoq.trans hk)).1; omega
    rw [hoq] at hst hOu
    rw [hlln] at hOu ⊢
    have HOx := Hy hOu
    have H := Hy (An hb (An hbw (An (hdq.trans hst) (An hlen (An y0 y2)))))
    clear hb hbw hdq hst hlen y0 y1 y2 hrow hx hoq hOu hlln c0w m0 e0 e1 hll
    go_wp2_with fail
    with_reducible refine HOx.out.mono ?_
    rintro en w5 ⟨hnone, hsome, hb5⟩
    have H5 := Hy hb5
    clear hb5 m1 m2 c0
    cases oq with
    | none =>
     obtain ⟨u, rfl⟩ := hnone rfl
     have HP := Hy (HNo.out H.out.2.2.1)
     have y0 := obj_below H.out.2.2.2.2.1 H5.out (obj_lt H.out.2.2.2.2.1)
     have y2 := obj_below H.out.2.2.2.2.2 H5.out (obj_lt H.out.2.2.2.2.2)
     obtain ⟨e0, e1⟩ := obj2s y0
     obtain ⟨q0, q1⟩ := obj2s y2
     have u0 := obj_free y2 0
     have u1 := obj_free y2 1
     have H6 := Hy (An (H.out.2.1.trans (H5.out.mono H.out.2.1.size)) y2)
     clear hnone hsome y0 y2
     go_wp2
     obtain ⟨j0, j1⟩ := obj2s (set2_e H6.out.2 (.string ⟨dn.toArray⟩) (.slice a ln c))
     refine bodyPost_ret (v := .tuple #[.agg #[.string ⟨dn.toArray⟩, .slice a ln c], .int .i64 16]) (by simp [results, Tryz.results84, go_sem, *]) rfl ?_
     exact mdPost_bad HP.out (by decide) (below_e2 H6.out.1 (by omega) _ _)
    | some k =>
     obtain ⟨u, rfl, hrow⟩ := hsome k rfl
     obtain ⟨ua, uc, rfl⟩ := ownsRow_slice hrow
     have HQ := Hy (An H.out.2.2.1 (H.out.2.2.2.1 k rfl))
     have H6 := Hy (An hrow (H.out.1.trans (H5.out.mono H.out.1.size)))
     clear hnone hsome hrow
     go_wp2
     exact ⟨⟨i + 1, k, _, by omega, by go_num, H6.out.1, HQ.out.1, HQ.out.2, H6.out.2⟩, by simp [intOf]; omega⟩
   ·obtain rfl : i = m := by omega
    have HP := Hy (HYes.out l (by rw [hdq, HEn.out]))
    have htx := txR_owns hrow
    have HWr := Hy (HWm.out l _ wr hbw htx (by omega))
    obtain ⟨Z, hZ⟩ : ∃ Z, clA (WO ++ [(n, l)]) = Z := ⟨_, rfl⟩
    rw [hZ] at HP HWr
    rw [hlln] at HWr ⊢
    have H := Hy (An hbw y2)
    clear hb hbw hdq y0 y1 y2 hrow htx hZ hlln hll
    go_wp2_with fail
    with_reducible refine HWr.out.mono ?_
    rintro en w6 ⟨v, rfl, hpa, hb6⟩
    obtain ⟨ra, rc, rfl⟩ := paAt_slice hpa
    have x6 := obj_below H.out.2 hb6 (obj_lt H.out.2)
    obtain ⟨q0, q1⟩ := obj2s x6
    have u0 := obj_free x6 0
    have u1 := obj_free x6 1
    obtain ⟨rn, hrn⟩ : ∃ k, Z.length = k := ⟨_, rfl⟩
    rw [hrn] at hpa ⊢
    have H6 := Hy (An hpa (An (H.out.1.trans (hb6.mono H.out.1.size)) x6))
    clear hpa hb6 x6 e0 e1 m0 m1 m2 hrn
    go_wp2
    obtain ⟨j0, j1⟩ := obj2s (set2_e H6.out.2.2 (.string ⟨dn.toArray⟩) (.slice ra rn rc))
    refine bodyPost_ret (v := .tuple #[.agg #[.string ⟨dn.toArray⟩, .slice ra rn rc], .int .i64 0]) (by simp [results, Tryz.results84, go_sem, *]) rfl ?_
    exact mdPost_ok HP.out (paAt_set2 H6.out.1 H6.out.2.2 (by decide) (by decide) _ _) (below_e2 H6.out.2.1 (by omega) _ _)
theorem boxesO {w W1 : World} {a b d e i j k f g : Value} (h : (((w.alloc (.cells #[a, b] 34)).alloc (.cells #[d, e] 24)).alloc (.cells #[i, j, k] 47)).alloc (.cells #[f, g] 24) = W1) :
  W1.heap[w.heap.size]? = some (.cells #[a, b] 34 (0, 0)) /\ W1.heap[w.heap.size + 1]? = some (.cells #[d, e] 24 (0, 0)) /\ W1.heap[w.heap.size + 1 + 1]? = some (.cells #[i, j, k] 47 (0, 0)) /\ W1.heap[w.heap.size + 1 + 1 + 1]? = some (.cells #[f, g] 24 (0, 0)) /\ Below w.heap.size w W1 /\ W1.heap.size = w.heap.size + 4 := by
 obtain ⟨W0, hW0⟩ : ∃ W, w.alloc (.cells #[a, b] 34) = W := ⟨_, rfl⟩
 rw [hW0] at h
 obtain ⟨y1, y2, y3, hb, hz⟩ := boxesD h
 have s0 : W0.heap.size = w.heap.size + 1 := by rw [<- hW0]; simp
 rw [s0] at y1 y2 y3 hb hz
 have y0 : W0.heap[w.heap.size]? = some (.cells #[a, b] 34 (0, 0)) := by rw [<- hW0]; exact heap_alloc_new w _
 have b0 : Below w.heap.size w W0 := by rw [<- hW0]; exact (Below.refl _ w).alloc (Nat.le_refl _) _
 exact ⟨obj_below y0 hb (by omega), y1, y2, y3, b0.trans (hb.mono (by omega)), by omega⟩
theorem mdOne_some {L : List Atr} {op : Int} {n : List UInt8} {vs : List (List UInt8)} {t : Ty} (h : scT plT n = some t) : mdOne L (op, (n, vs)) = if mdOk t.2.1 vs = true then mdOp op t.2.1 L n vs else ([], 21) := by unfold mdOne; rw [h]
theorem mdOp_0 {r : Int} {L : List Atr} {n : List UInt8} {vs : List (List UInt8)} : mdOp 0 r L n vs = mdAdd r L n vs := by unfold mdOp; rw [if_pos rfl]
theorem mdOp_1 {r : Int} {L : List Atr} {n : List UInt8} {vs : List (List UInt8)} : mdOp 1 r L n vs = mdDel r L n vs := by unfold mdOp; rw [if_neg (by decide), if_pos rfl]
theorem mdOp_2 {r : Int} {L : List Atr} {n : List UInt8} {vs : List (List UInt8)} : mdOp 2 r L n vs = mdRep r L n vs := by unfold mdOp; rw [if_neg (by decide), if_neg (by decide), if_pos rfl]
theorem mdOp_o {op r : Int} {L : List Atr} {n : List UInt8} {vs : List (List UInt8)} (h0 : op ≠ 0) (h1 : op ≠ 1) (h2 : op ≠ 2) : mdOp op r L n vs = ([], 2) := by unfold mdOp; rw [if_neg h0, if_neg h1, if_neg h2]
theorem ron21_any (op : Int) (L : List Atr) (dn n : List UInt8) (vs : List (List UInt8)) (tv cv av vv : Value) (w : World) (hT : TyAt w tv plT) (hE : EaAt w av L) (hC : Cln 100 170 L) (hV : TxR w vv vs) (hvl : vs.length <= 8) (hnl : n.length <= 100000) :
  Calls Tryz.prog 40 #[.agg #[tv, cv], .agg #[.string ⟨dn.toArray⟩, av], .agg #[.int .i64 op, .string ⟨n.toArray⟩, vv]] w (MdPost dn (mdOne L (op, (n, vs))) w) := by
 have hC2 := cln_mono hC (show 100 <= 200 by omega) (show 170 <= 200 by omega)
 have hf3 : FewG 300 300 L := fewG_mono hC.few (by omega) (by omega)
 have hfw : FewG 300 300 (woL L n) := fewG_mono (cln_wo hC n).few (by omega) (by omega)
 obtain ⟨va, vc, rfl, hVc⟩ := hV
 have hV : TxR w (.slice va vs.length vc) vs := ⟨va, vc, rfl, hVc⟩
 obtain ⟨a, c, rfl⟩ := eaAt_slice hE
 have hAt := eaAt_at hE
 obtain ⟨W1, hW1⟩ : ∃ W, (((w.alloc (.cells #[tv, cv] 34)).alloc (.cells #[.string ⟨dn.toArray⟩, .slice a L.length c] 24)).alloc (.cells #[.int .i64 op, .string ⟨n.toArray⟩, .slice va vs.length vc] 47)).alloc (.cells #[.string ⟨#[]⟩, .slice none 0 0] 24) = W := ⟨_, rfl⟩
 obtain ⟨x0, x1, x2, x3, hb1, hz1⟩ := boxesO hW1
 have HTy := Hy (rtype9_any plT tv cv n W1 (tyAt_below hT hb1) (by decide +kernel) (by decide +kernel) (by omega))
 have HAd := Hy (fun r w' (hb : Below w.heap.size w w') => rad21_any op r L dn n vs (.slice a L.length c) (.slice va vs.length vc) w' (eaAt_below hE hb) hC2.few (txR_below hV hb) (by omega) hnl)
 have HDr := Hy (fun r w' (hb : Below w.heap.size w w') => rdr21_any op r L dn n vs (.slice a L.length c) (.slice va vs.length vc) w' (eaAt_below hE hb) hC2 (txR_below hV hb) (by omega) hnl)
 have HTw := Hy (fun r w' (hb : Below w.heap.size w w') => rtw21_any r vs (.slice va vs.length vc) w' (txR_below hV hb) (by omega))
 have HWm := Hy (fun w' (hb : Below w.heap.size w w') => rwm21_any L dn n vs (.slice a L.length c) (.slice va vs.length vc) w' (atAt_below hAt hb) hf3 hfw (txR_below hV hb) hnl (by omega))
 have HNo := Hy (fun r s w => rrnorm_any r s w)
 have HVc := Hy hVc
 have HX := Hy (An x0 (An x1 (An x2 (An x3 (An hb1 hz1)))))
 have HW1 := Hy hW1
 have hp0 : scT plT n = none -> (mdOne L (op, (n, vs))).2 = 17 := fun h => by unfold mdOne; rw [h]
 have hp1 := fun t (h : scT plT n = some t) => mdOne_some (L := L) (op := op) (vs := vs) h
 obtain ⟨P, hP⟩ : ∃ P, mdOne L (op, (n, vs)) = P := ⟨_, rfl⟩
 rw [hP] at hp0 hp1 ⊢
 obtain ⟨Z, hZ⟩ : ∃ P, clA (woL L n ++ [(n, vs)]) = P := ⟨_, rfl⟩
 have HZ := Hy hZ
 rw [hZ] at HWm
 obtain ⟨ln, hln⟩ : ∃ k, L.length = k := ⟨_, rfl⟩
 rw [hln] at HW1 HX HAd HDr HWm ⊢
 obtain ⟨m, hm⟩ : ∃ k, vs.length = k := ⟨_, rfl⟩
 have HM := Hy hm
 rw [hm] at HW1 HX HAd HDr HTw HWm hvl ⊢
 have z0 : w.heap.size < W1.heap.size := by omega
 have z1 : w.heap.size + 1 < W1.heap.size := by omega
 have z2 : w.heap.size + 1 + 1 < W1.heap.size := by omega
 have z3 : w.heap.size + 1 + 1 + 1 < W1.heap.size := by omega
 clear hT hE hf3 hfw hC hC2 hV hVc hnl hAt x0 x1 x2 x3 hb1 hz1 hW1 hP hZ hln hm
 cases hq : scT plT n with
 | none =>
  rw [hq] at HTy
  have HTz := Hy (show Calls Tryz.prog 43 #[.agg #[tv, cv], .string ⟨n.toArray⟩] W1 (fun en w'' => en = .returned (.tuple #[.agg #[.string ⟨#[]⟩, .int .i64 0, .bool false], .bool false]) /\ Below W1.heap.size W1 w'') from HTy.out)
  have HP := Hy (hp0 hq)
  clear hp0 hp1 hq
  go_enter Tryz.func40, Tryz.ntmps40
  go_wp2_with fail
  rw [HW1.out]
  with_reducible refine HTz.out.mono ?_
  rintro en w2 ⟨rfl, hb2⟩
  have hbw := HX.out.2.2.2.2.1.trans (hb2.mono HX.out.2.2.2.2.1.size)
  have y1 := obj_below HX.out.2.1 hb2 z1
  have y3 := obj_below HX.out.2.2.2.1 hb2 z3
  have ke0 : ∀ ob, (w2.alloc ob).cell? ⟨w.heap.size + 1, 0, none⟩ = some (.string ⟨dn.toArray⟩) := fun ob => obj_cell (obj_alloc y1 ob) 0 _ rfl
  have ke1 : ∀ ob, (w2.alloc ob).cell? ⟨w.heap.size + 1, 1, none⟩ = some (.slice a ln c) := fun ob => obj_cell (obj_alloc y1 ob) 1 _ rfl
  have kq0 : ∀ ob, (w2.alloc ob).cell? ⟨w.heap.size + 1 + 1 + 1, 0, none⟩ = some (.string ⟨#[]⟩) := fun ob => obj_cell (obj_alloc y3 ob) 0 _ rfl
  have kq1 : ∀ ob, (w2.alloc ob).cell? ⟨w.heap.size + 1 + 1 + 1, 1, none⟩ = some (.slice none 0 0) := fun ob => obj_cell (obj_alloc y3 ob) 1 _ rfl
  have ku0 : ∀ ob, (w2.alloc ob).frozen? ⟨w.heap.size + 1 + 1 + 1, 0, none⟩ = false := fun ob => obj_free (obj_alloc y3 ob) 0
  have ku1 : ∀ ob, (w2.alloc ob).frozen? ⟨w.heap.size + 1 + 1 + 1, 1, none⟩ = false := fun ob => obj_free (obj_alloc y3 ob) 1
  have H2 := Hy (An hbw y3)
  clear hb2 hbw y1 y3
  go_wp2
  obtain ⟨j0, j1⟩ := obj2s (set2_e (obj_alloc H2.out.2 (.cells #[.string ⟨#[]⟩, .int .i64 0, .bool false] 79)) (.string ⟨dn.toArray⟩) (.slice a ln c))
  refine bodyPost_ret (v := .tuple #[.agg #[.string ⟨dn.toArray⟩, .slice a ln c], .int .i64 17]) (by simp [results, Tryz.results40, go_sem, *]) rfl ?_
  exact mdPost_bad HP.out (by decide) (below_e2 (H2.out.1.alloc H2.out.1.size _) (by omega) _ _)
 | some t =>
  have hp1 := hp1 t hq
  obtain ⟨tn, tr, ts⟩ := t
  dsimp only at hp1
  rw [hq] at HTy
  have HTz := Hy (show Calls Tryz.prog 43 #[.agg #[tv, cv], .string ⟨n.toArray⟩] W1 (fun en w'' => en = .returned (.tuple #[.agg #[.string ⟨tn.toArray⟩, .int .i64 tr, .bool ts], .bool true]) /\ Below W1.heap.size W1 w'') from HTy.out)
  have HP := Hy hp1
  have HBad := Hy (mdOk_bad (r := tr) (vs := vs))
  have HGood := Hy (mdOk_good (r := tr) (vs := vs))
  clear hp0 hp1 hq
  go_enter Tryz.func40, Tryz.ntmps40
  go_wp2_with fail
  rw [HW1.out]
  with_reducible refine HTz.out.mono ?_
  rintro en w2 ⟨rfl, hb2⟩
  obtain ⟨W3, hW3⟩ : ∃ W, w2.alloc (.cells #[.string ⟨tn.toArray⟩, .int .i64 tr, .bool ts] 79) = W := ⟨_, rfl⟩
  have hb3 : Below w2.heap.size w2 W3 := by rw [<- hW3]; exact (Below.refl _ w2).alloc (Nat.le_refl _) _
  have x3 : W3.heap[w2.heap.size]? = some (.cells #[.string ⟨tn.toArray⟩, .int .i64 tr, .bool ts] 79 (0, 0)) := by rw [<- hW3]; exact heap_alloc_new w2 _
  have hb13 := hb2.trans (hb3.mono hb2.size)
  have hbw := HX.out.2.2.2.2.1.trans (hb13.mono HX.out.2.2.2.2.1.size)
  have y1 := obj_below HX.out.2.1 hb13 z1
  have y2 := obj_below HX.out.2.2.1 hb13 z2
  have y3 := obj_below HX.out.2.2.2.1 hb13 z3
  obtain ⟨bt, hbt⟩ : ∃ b, w2.heap.size = b := ⟨_, rfl⟩
  rw [hbt] at x3
  have H3 := Hy (An y1 (An y2 (An y3 (An x3 hbw))))
  have HW3 := Hy (An hW3 hbt)
  clear hb2 hb3 x3 hb13 hbw y1 y2 y3 hW3 hbt
  go_wp2
  try rw [HW3.out.1]
  try rw [HW3.out.2]
  go_loopw [10] (fun x wr => ∃ i : Nat, i <= m /\ x = .int .i64 (i : Nat) /\ Below W3.heap.size W3 wr /\ ∀ j (hj : j < vs.length), j < i -> (ruN tr vs[j]).2 = true) (fun x _ => m - (intOf x).toNat)
  case atStart => exact ⟨0, by omega, rfl, Below.refl _ _, fun j _ h => by omega⟩
  case round =>
   obtain ⟨i, hi, rfl, hb, hall⟩ := hrel
   have hbw := H3.out.2.2.2.2.trans (hb.mono H3.out.2.2.2.2.size)
   have y1 := obj_below H3.out.1 hb (obj_lt H3.out.1)
   have y2 := obj_below H3.out.2.1 hb (obj_lt H3.out.2.1)
   have y3 := obj_below H3.out.2.2.1 hb (obj_lt H3.out.2.2.1)
   have yt := obj_below H3.out.2.2.2.1 hb (obj_lt H3.out.2.2.2.1)
   obtain ⟨e0, e1⟩ := obj2s y1
   obtain ⟨m0, m1, m2⟩ := obj3 y2
   obtain ⟨t0, t1, t2⟩ := obj3 yt
   by_cases hlt : i < m
   ·have hil : (i : Int) < (m : Int) := by omega
    have him : i < vs.length := by rw [HM.out]; exact hlt
    obtain ⟨g, o, rfl, hg, c0w⟩ := HVc.out i him
    have c0 := (hbw.cell (p := ⟨g, _, none⟩) hg).trans c0w
    have hbad := HBad.out i him
    have hnext := fun (hx : (ruN tr vs[i]).2 = true) j (hj : j < vs.length) (hjk : j < i + 1) => (show (ruN tr vs[j]).2 = true by
     by_cases e : j = i
     ·subst e; exact hx
     ·exact hall j hj (by omega))
    obtain ⟨x, hx⟩ : ∃ x, vs[i] = x := ⟨_, rfl⟩
    rw [hx] at c0 hbad hnext
    have hNo := fun w' => HNo.out tr x w'
    obtain ⟨⟨M, ok⟩, hp⟩ : ∃ p, ruN tr x = p := ⟨_, rfl⟩
    rw [hp] at hNo hbad hnext
    dsimp only at hbad hnext
    have HNx := Hy hNo
    have z1r := obj_lt y1
    have z2r := obj_lt y2
    have z3r := obj_lt y3
    have ztr := obj_lt yt
    have zg := Nat.lt_of_lt_of_le hg hbw.size
    have H := Hy (An hb (An hbw (An hbad (An hnext (An y1 y3)))))
    clear hb hbw hbad hnext hall hNo hp hx y1 y2 y3 yt c0w m0 m1 e0 e1 t0 t2
    go_wp2_with fail
    go_region_held3 (fun w' => w'.cell? ⟨bt, 1, none⟩ = some (.int .i64 tr) /\ w'.cell? ⟨w.heap.size + 1 + 1, 2, none⟩ = some (.slice (some ⟨g, o, none⟩) m vc) /\ w'.cell? ⟨g, o + i, none⟩ = some (.string ⟨x.toArray⟩)) (first | exact ⟨d0, d1, d2⟩ | exact ⟨t1, m2, c0⟩ | go_keep)
     (first | (go_at_call 82; (with_reducible refine (HNx.out _).mono ?_); rintro en wz ⟨rfl, hb5⟩; have hbW : Below wr.heap.size wr wz := (by first | exact (Below.refl _ wr).drew.trans hb5 | exact hb5); have d0 := (hbW.cell (p := ⟨bt, 1, none⟩) ztr).trans t1; have d1 := (hbW.cell (p := ⟨w.heap.size + 1 + 1, 2, none⟩) z2r).trans m2; have d2 := (hbW.cell (p := ⟨g, _, none⟩) zg).trans c0; dsimp only; clear hb5))
    all_goals
     have y1 := obj_below H.out.2.2.2.2.1 hbW z1r
     have y3 := obj_below H.out.2.2.2.2.2 hbW z3r
     have H5 := Hy (An (H.out.1.trans (hbW.mono H.out.1.size)) (An (H.out.2.1.trans (hbW.mono H.out.2.1.size)) (An y1 y3)))
     clear hbW d0 d1 d2 t1 m2 c0
     cases ok with
     | true =>
      have HQ := Hy (H.out.2.2.2.1 rfl)
      clear y1 y3
      go_wp2
      exact ⟨⟨i + 1, by omega, by go_num, H5.out.1, HQ.out⟩, by simp [intOf]; omega⟩
     | false =>
      have HQ := Hy (show P.2 = 21 by have h := HP.out; rw [if_neg (by rw [H.out.2.2.1 rfl]; decide)] at h; rw [h])
      obtain ⟨e0, e1⟩ := obj2s y1
      obtain ⟨q0, q1⟩ := obj2s y3
      have u0 := obj_free y3 0
      have u1 := obj_free y3 1
      clear y1 y3
      go_wp2
      obtain ⟨j0, j1⟩ := obj2s (set2_e H5.out.2.2.2 (.string ⟨dn.toArray⟩) (.slice a ln c))
      refine bodyPost_ret (v := .tuple #[.agg #[.string ⟨dn.toArray⟩, .slice a ln c], .int .i64 21]) (by simp [results, Tryz.results40, go_sem, *]) rfl ?_
      exact mdPost_bad HQ.out (by decide) (below_e2 H5.out.2.1 (by omega) _ _)
   ·obtain rfl : i = m := by omega
    have HPk := Hy (show P = mdOp op tr L n vs by have h := HP.out; rw [if_pos (HGood.out (fun j hj => hall j hj (by rw [<- HM.out]; exact hj)))] at h; exact h)
    have hz3 := obj_lt y3
    have hz1r := obj_lt y1
    obtain ⟨q0, q1⟩ := obj2s y3
    have u0 := obj_free y3 0
    have u1 := obj_free y3 1
    have H := Hy (An hbw (An y1 y3))
    clear hb hbw hall y1 y2 y3 yt
    by_cases o0 : op = 0
    ·have HA := Hy (HAd.out tr wr H.out.1)
     have HPz := Hy (show P = mdAdd tr L n vs by rw [HPk.out, o0, mdOp_0])
     have ob0 : (op == 0) = true := by simp [o0]
     clear o0 q0 q1 u0 u1
     go_wp2_with fail
     with_reducible refine HA.out.mono ?_
     rintro en w6 ⟨d, ra, rn, rc, rfl, hpa, hb6⟩
     have y6 := obj_below H.out.2.2 hb6 hz3
     obtain ⟨q0, q1⟩ := obj2s y6
     have u0 := obj_free y6 0
     have u1 := obj_free y6 1
     have H6 := Hy (An hpa (An (H.out.1.trans (hb6.mono H.out.1.size)) y6))
     clear hpa hb6 y6 e0 e1 t0 t1 t2 m0 m1 m2
     obtain ⟨pc, hpc⟩ : ∃ x, (mdAdd tr L n vs).2 = x := ⟨_, rfl⟩
     rw [hpc]
     have HPc := Hy hpc
     clear hpc
     go_wp2
     obtain ⟨j0, j1⟩ := obj2s (set2_e H6.out.2.2 (.string ⟨d⟩) (.slice ra rn rc))
     refine bodyPost_ret (v := .tuple #[.agg #[.string ⟨d⟩, .slice ra rn rc], .int .i64 pc]) (by simp [results, Tryz.results40, go_sem, *]) rfl ?_
     rw [HPz.out]
     exact ⟨d, ra, rn, rc, by rw [HPc.out], fun hz => ⟨(H6.out.1 hz).1, paAt_set2 (H6.out.1 hz).2 H6.out.2.2 (by decide) (by decide) _ _⟩, below_e2 H6.out.2.1 (by omega) _ _⟩
    ·have ob0 : (op == 0) = false := by simpa using o0
     by_cases o1 : op = 1
     ·have HA := Hy (HDr.out tr wr H.out.1)
      have HPz := Hy (show P = mdDel tr L n vs by rw [HPk.out, o1, mdOp_1])
      have ob1 : (op == 1) = true := by simp [o1]
      clear o0 o1 q0 q1 u0 u1
      go_wp2_with fail
      with_reducible refine HA.out.mono ?_
      rintro en w6 ⟨d, ra, rn, rc, rfl, hpa, hb6⟩
      have y6 := obj_below H.out.2.2 hb6 hz3
      obtain ⟨q0, q1⟩ := obj2s y6
      have u0 := obj_free y6 0
      have u1 := obj_free y6 1
      have H6 := Hy (An hpa (An (H.out.1.trans (hb6.mono H.out.1.size)) y6))
      clear hpa hb6 y6 e0 e1 t0 t1 t2 m0 m1 m2
      obtain ⟨pc, hpc⟩ : ∃ x, (mdDel tr L n vs).2 = x := ⟨_, rfl⟩
      rw [hpc]
      have HPc := Hy hpc
      clear hpc
      go_wp2
      obtain ⟨j0, j1⟩ := obj2s (set2_e H6.out.2.2 (.string ⟨d⟩) (.slice ra rn rc))
      refine bodyPost_ret (v := .tuple #[.agg #[.string ⟨d⟩, .slice ra rn rc], .int .i64 pc]) (by simp [results, Tryz.results40, go_sem, *]) rfl ?_
      rw [HPz.out]
      exact ⟨d, ra, rn, rc, by rw [HPc.out], fun hz => ⟨(H6.out.1 hz).1, paAt_set2 (H6.out.1 hz).2 H6.out.2.2 (by decide) (by decide) _ _⟩, below_e2 H6.out.2.1 (by omega) _ _⟩
     ·have ob1 : (op == 1) = false := by simpa using o1
      by_cases o2 : op = 2
      ·have HTwr := Hy (HTw.out tr wr H.out.1)
       have ob2 : (op == 2) = true := by simp [o2]
       have HPz := Hy (show P = mdRep tr L n vs by rw [HPk.out, o2, mdOp_2])
       obtain ⟨T, hT⟩ : ∃ T, mdTw tr vs = T := ⟨_, rfl⟩
       have HTT := Hy hT
       rw [hT] at HTwr
       clear o0 o1 o2 hT q0 q1 u0 u1
       go_wp2_with fail
       with_reducible refine HTwr.out.mono ?_
       rintro en w6 ⟨rfl, hb6⟩
       have hbw6 := H.out.1.trans (hb6.mono H.out.1.size)
       have y16 := obj_below H.out.2.1 hb6 hz1r
       have y36 := obj_below H.out.2.2 hb6 hz3
       have y26 := (hb6.cell (p := ⟨w.heap.size + 1 + 1, 1, none⟩) (Lib.lt_of_cell m1)).trans m1
       have y27 := (hb6.cell (p := ⟨w.heap.size + 1 + 1, 2, none⟩) (Lib.lt_of_cell m2)).trans m2
       clear e0 e1 m0 m1 m2 t0 t1 t2
       obtain ⟨e0, e1⟩ := obj2s y16
       obtain ⟨q0, q1⟩ := obj2s y36
       have u0 := obj_free y36 0
       have u1 := obj_free y36 1
       have H6 := Hy (An hbw6 y36)
       clear hb6 hbw6 y16 y36
       cases T with
       | true =>
        have HQ := Hy (show P.2 = 20 by rw [HPz.out]; unfold mdRep; rw [if_pos HTT.out])
        go_wp2
        obtain ⟨j0, j1⟩ := obj2s (set2_e H6.out.2 (.string ⟨dn.toArray⟩) (.slice a ln c))
        refine bodyPost_ret (v := .tuple #[.agg #[.string ⟨dn.toArray⟩, .slice a ln c], .int .i64 20]) (by simp [results, Tryz.results40, go_sem, *]) rfl ?_
        exact mdPost_bad HQ.out (by decide) (below_e2 H6.out.1 (by omega) _ _)
       | false =>
        have HQ := Hy (show P = (Z, 0) by rw [HPz.out]; unfold mdRep; rw [if_neg (by rw [HTT.out]; decide), HZ.out])
        have HWr := Hy (HWm.out w6 H6.out.1)
        clear q0 q1 u0 u1
        go_wp2_with fail
        with_reducible refine HWr.out.mono ?_
        rintro en w7 ⟨v, rfl, hpa, hb7⟩
        obtain ⟨ra, rc, rfl⟩ := paAt_slice hpa
        have x7 := obj_below H6.out.2 hb7 (obj_lt H6.out.2)
        obtain ⟨q0, q1⟩ := obj2s x7
        have u0 := obj_free x7 0
        have u1 := obj_free x7 1
        obtain ⟨rn, hrn⟩ : ∃ k, Z.length = k := ⟨_, rfl⟩
        rw [hrn] at hpa ⊢
        have H7 := Hy (An hpa (An (H6.out.1.trans (hb7.mono H6.out.1.size)) x7))
        clear hpa hb7 x7 e0 e1 y26 y27 hrn
        go_wp2
        obtain ⟨j0, j1⟩ := obj2s (set2_e H7.out.2.2 (.string ⟨dn.toArray⟩) (.slice ra rn rc))
        refine bodyPost_ret (v := .tuple #[.agg #[.string ⟨dn.toArray⟩, .slice ra rn rc], .int .i64 0]) (by simp [results, Tryz.results40, go_sem, *]) rfl ?_
        exact mdPost_ok HQ.out (paAt_set2 H7.out.1 H7.out.2.2 (by decide) (by decide) _ _) (below_e2 H7.out.2.1 (by omega) _ _)
      ·have ob2 : (op == 2) = false := by simpa using o2
       have HQ := Hy (show P.2 = 2 by rw [HPk.out, mdOp_o o0 o1 o2])
       clear o0 o1 o2
       go_wp2
       obtain ⟨j0, j1⟩ := obj2s (set2_e H.out.2.2 (.string ⟨dn.toArray⟩) (.slice a ln c))
       refine bodyPost_ret (v := .tuple #[.agg #[.string ⟨dn.toArray⟩, .slice a ln c], .int .i64 2]) (by simp [results, Tryz.results40, go_sem, *]) rfl ?_
       exact mdPost_bad HQ.out (by decide) (below_e2 H.out.1 (by omega) _ _)
end Go.Proofs.YtpkbgkoocijegaaGreatDoor
