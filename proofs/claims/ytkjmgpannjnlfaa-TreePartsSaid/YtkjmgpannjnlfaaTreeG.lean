/- The document's Parts tells what the plain function pa tells, for every text that is no longer than a text may be and every row of tags; and two rows of the same texts are the same to the document's Texts. -/
import Derived.Test.YtkjmgpannjnlfaaTreeF
namespace Go.Proofs.Ytkjmgpannjnlfaa
open Go.RowKit Go.Proofs.BerM Go.Proofs.BerK

set_option maxHeartbeats 800000 in
set_option maxRecDepth 100000 in
theorem rpa_err (s : ByteArray) (vt : Value) (w : World) (hm : s.size ≤ maxLen) (t sz e : Nat) (b : List UInt8) (hr : rd s.data.toList = (t, b, sz, e)) (he : e ≠ 0) :
    Calls Try.prog 14 #[.string s, vt] w (PaPost [] e w) := by
  have HC := Lib.hid fun w => rrd_any s w hm t sz e b hr
  have h1 : ((e : Int) != 0) = true := by rw [bne_iff_ne]; omega
  clear hr
  go_enter Try.func14, Try.ntmps14
  go_wp2_with fail
  refine (HC.out _).mono ?_
  rintro en w1 ⟨rfl, hb1⟩
  go_wp2
  go_ret2
  exact pap_err (hb1.alloc hb1.size _)

set_option maxHeartbeats 800000 in
set_option maxRecDepth 100000 in
theorem rpa_tag (s : ByteArray) (vt : Value) (w : World) (hm : s.size ≤ maxLen) (t sz : Nat) (b : List UInt8) (hr : rd s.data.toList = (t, b, sz, 0)) (ht : t ≠ 48) :
    Calls Try.prog 14 #[.string s, vt] w (PaPost [] 6 w) := by
  have HC := Lib.hid fun w => rrd_any s w hm t sz 0 b hr
  have h1 : ((t : Int) != 48) = true := by rw [bne_iff_ne]; omega
  clear hr
  go_enter Try.func14, Try.ntmps14
  go_wp2_with fail
  refine (HC.out _).mono ?_
  rintro en w1 ⟨rfl, hb1⟩
  go_wp2
  go_ret2
  exact pap_err (hb1.alloc hb1.size _)

set_option maxHeartbeats 800000 in
set_option maxRecDepth 100000 in
theorem rpa_form (s : ByteArray) (vt : Value) (w : World) (hm : s.size ≤ maxLen) (sz : Nat) (b : List UInt8) (hr : rd s.data.toList = (48, b, sz, 0)) (hs : sz < s.size) :
    Calls Try.prog 14 #[.string s, vt] w (PaPost [] 5 w) := by
  have HC := Lib.hid fun w => rrd_any s w hm 48 sz 0 b hr
  unfold maxLen at hm
  clear hr
  go_enter Try.func14, Try.ntmps14
  go_wp2_with fail
  refine (HC.out _).mono ?_
  rintro en w1 ⟨rfl, hb1⟩
  go_wp2
  go_ret2
  exact pap_err (hb1.alloc hb1.size _)

set_option maxHeartbeats 1600000 in
set_option maxRecDepth 100000 in
theorem rpa_main (s : ByteArray) (vt : Value) (ts : List Nat) (w : World) (hm : s.size ≤ maxLen) (hts : IntAt w vt ts) (htl : ts.length ≤ 1024) (sz : Nat) (b : List UInt8) (hr : rd s.data.toList = (48, b, sz, 0)) (hs : ¬ sz < s.size) (P : List TB) (e : Nat) (ha : al b = (P, e)) (B : List (List UInt8)) (e2 : Nat)
    (hB : (if e ≠ 0 then ([], e) else if P.length ≠ ts.length then ([], 5) else if P.map Prod.fst = ts then (P.map Prod.snd, 0) else ([], 6)) = (B, e2)) :
    Calls Try.prog 14 #[.string s, vt] w (PaPost B e2 w) := by
  have HC := Lib.hid fun w => rrd_any s w hm 48 sz 0 b hr
  have hgb : b.length ≤ 65536 := (rd_good _ 48 sz b hr).1.2
  have hgl := al_good b
  rw [ha] at hgl
  have hPl : P.length ≤ 1024 := hgl.2
  have HA := Lib.hid ha
  have HB := Lib.hid hB
  obtain ⟨at1, ct, rfl, htq⟩ := hts
  have HT := Lib.hid htq
  unfold maxLen at hm
  clear hr ha hB hgl htq
  go_enter Try.func14, Try.ntmps14
  go_wp2_with fail
  refine (HC.out _).mono ?_
  rintro en w1 ⟨rfl, hb1⟩
  go_wp2_with fail
  refine (ral_any ⟨b.toArray⟩ _ (by unfold maxLen; show b.length ≤ _; omega)).mono ?_
  rintro en w2 ⟨v, rfl, hown, hb2⟩
  have hAl : al (⟨b.toArray⟩ : ByteArray).data.toList = (P, e) := HA.out
  rw [hAl] at hown ⊢
  obtain ⟨ap, cp, rfl, hpq⟩ := rowAt_uni (rowAt_owns hown)
  have HP := Lib.hid hpq
  have hb02 : Below w.heap.size w w2 := (hb1.alloc hb1.size _).trans (hb2.mono (by have := hb1.size; simp; omega))
  clear hAl hown hb1 hb2 hpq
  by_cases he : e = 0
  · subst he
    by_cases hn : P.length = ts.length
    · have hv := HB.out
      rw [if_neg (by simp), if_neg (by simpa using hn)] at hv
      have HV := Lib.hid hv
      have hne : ((P.length : Int) != (ts.length : Int)) = false := by rw [bne_eq_false_iff_eq]; omega
      have HN := Lib.hid hn
      clear hv HB hn
      go_wp2
      go_loopw [10, 11] (fun v10 v11 wr => ∃ i : Nat, v11 = .int .i64 i ∧ i ≤ P.length ∧ (P.map Prod.fst).take i = ts.take i ∧ wr.ownsRow w2.heap.size 9 1 v10 i (sc ((P.map Prod.snd).take i)) ∧ Below w2.heap.size w2 wr) (fun _ v11 _ => P.length - (intOf v11).toNat)
      case atStart => exact ⟨0, rfl, Nat.zero_le _, rfl, World.ownsRow_nil _ _ _ _, Below.refl _ _⟩
      case round =>
        obtain ⟨i, rfl, hi, hinv, hown, hbel⟩ := hrel
        have HInv := Lib.hid hinv
        clear hinv
        obtain ⟨oa, oc, rfl⟩ := ownsRow_slice hown
        by_cases hlt : i < P.length
        · have hlt2 : i < ts.length := by have := HN.out; omega
          obtain ⟨g, rfl, hg, hp0, hp1⟩ := HP.out i hlt
          obtain ⟨gt, rfl, hgt, ht0⟩ := HT.out i hlt2
          have hc0 := (hbel.cell (p := ⟨g, i * 2, none⟩) hg).trans hp0
          have hc1 := (hbel.cell (p := ⟨g, i * 2 + 1, none⟩) hg).trans hp1
          have hc2 := (hbel.cell (p := ⟨gt, i, none⟩) (Nat.lt_of_lt_of_le hgt hb02.size)).trans ((hb02.cell (p := ⟨gt, i, none⟩) hgt).trans ht0)
          have HX := Lib.hid (take_eq_snoc hlt hlt2 HInv.out)
          have HY := Lib.hid (map_ne hlt hlt2)
          have hset : sc ((P.map Prod.snd).take (i + 1)) = sc ((P.map Prod.snd).take i) ++ [.string ⟨P[i].2.toArray⟩] := by
            rw [List.take_succ_eq_append_getElem (by simpa using hlt)]; simp [sc]
          obtain ⟨t', b', hx⟩ : ∃ t' b', P[i] = (t', b') := ⟨_, _, rfl⟩
          obtain ⟨u, hu⟩ : ∃ u, ts[i] = u := ⟨_, rfl⟩
          rw [hx] at hc0 hc1 HX HY hset
          rw [hu] at hc2 HX HY
          have HSet := Lib.hid hset
          have HO := Lib.hid hown
          have hi0 : (0 : Int) ≤ i := by omega
          have hi1 : (i : Int) < (P.length : Int) := by omega
          have hi2 : (i : Int) < (ts.length : Int) := by omega
          clear hp0 hp1 ht0 hset hx hu hg hgt hown
          by_cases htu : t' = u
          · have hq : ((t' : Int) != (u : Int)) = false := by rw [bne_eq_false_iff_eq]; omega
            have HTU := Lib.hid htu
            clear htu
            go_wp2
            go_quiet (fail)
            have hownq := ownsRow_heap (w' := wr.drewN nq) HO.out rfl
            have hcq : (wr.drewN nq).cell? ⟨g, i * 2 + 1, none⟩ = some (.string ⟨b'.toArray⟩) := hc1
            have hbq := below_dn hbel nq
            generalize wr.drewN nq = wq at hownq hcq hbq ⊢
            clear hc0 hc1 hc2 hbel HO
            go_wp2_with (at_builtin; refine wpList_pushg rfl (.tmp 61) (.tmp 67) 28 9 rfl w2.heap.size 1 16 (.string ByteArray.empty) Try.info9 Try.underlying28 rfl (by decide) [.string ⟨b'.toArray⟩] rfl (by simp [Value.oneCell']) (.slice oa i oc) i (sc ((P.map Prod.snd).take i)) rfl _ rfl rfl hownq (by unfold maxLen; omega) (by omega) hbq.size ?_)
            intro v2 w4 hown4 hb4
            rw [← HSet.out] at hown4
            have HO4 := Lib.hid hown4
            have hb4' := hbq.trans hb4
            clear hown4 hownq hcq hb4 hbq
            go_wp2
            go_roundw
            case rel => exact ⟨i + 1, by go_num, by omega, HX.out HTU.out, HO4.out, hb4'⟩
            case measure => simp [intOf]; omega
          · have hq : ((t' : Int) != (u : Int)) = true := by rw [bne_iff_ne]; omega
            have hv := HV.out
            rw [if_neg (HY.out htu)] at hv
            simp only [Prod.mk.injEq] at hv
            obtain ⟨rfl, rfl⟩ := hv
            clear htu
            go_wp2
            go_quiet (fail)
            go_wp2
            go_ret2
            exact pap_err (hb02.trans ((below_dn hbel nq).mono hb02.size))
        · have hi' : i = P.length := by omega
          have hall : P.map Prod.fst = ts := by
            have := HInv.out
            rw [hi', List.take_of_length_le (by simp), HN.out, List.take_length] at this
            exact this
          have hv := HV.out
          rw [if_pos hall] at hv
          simp only [Prod.mk.injEq] at hv
          obtain ⟨rfl, rfl⟩ := hv
          have HO : Hid (wr.ownsRow w2.heap.size 9 1 (.slice oa i oc) (P.map Prod.snd).length (sc (P.map Prod.snd))) := by
            have ho := hown
            rw [List.take_of_length_le (by simp; omega)] at ho
            unfold Hid
            rw [List.length_map, ← hi']; exact ho
          clear hown hall hi'
          go_wp2
          go_ret2
          exact ⟨_, rfl, ownsRow_base HO.out hb02.size, hb02.trans (hbel.mono hb02.size)⟩
    · have hv := HB.out
      rw [if_neg (by simp), if_pos (by simpa using hn)] at hv
      simp only [Prod.mk.injEq] at hv
      obtain ⟨rfl, rfl⟩ := hv
      have hne : ((P.length : Int) != (ts.length : Int)) = true := by rw [bne_iff_ne]; omega
      clear HB
      go_wp2
      go_ret2
      exact pap_err hb02
  · have hv := HB.out
    rw [if_pos he] at hv
    simp only [Prod.mk.injEq] at hv
    obtain ⟨rfl, rfl⟩ := hv
    have h1 : ((e : Int) != 0) = true := by rw [bne_iff_ne]; omega
    clear HB
    go_wp2
    go_ret2
    exact pap_err hb02

theorem rparts_any (s : ByteArray) (vt : Value) (ts : List Nat) (w : World) (hm : s.size ≤ maxLen) (hts : IntAt w vt ts) (htl : ts.length ≤ 1024) (B : List (List UInt8)) (e : Nat) (hp : pa s.data.toList ts = (B, e)) :
    Calls Try.prog 14 #[.string s, vt] w (PaPost B e w) := by
  obtain ⟨t, b, sz, e1, hr⟩ : ∃ t b sz e1, rd s.data.toList = (t, b, sz, e1) := ⟨_, _, _, _, rfl⟩
  rw [pa, hr] at hp
  by_cases he : e1 = 0
  · subst he
    rw [if_neg (by simp)] at hp
    by_cases ht : t = 48
    · subst ht
      rw [if_neg (by simp)] at hp
      by_cases hs : sz < s.size
      · rw [if_pos (by rw [len_list]; exact hs)] at hp
        simp only [Prod.mk.injEq] at hp
        obtain ⟨rfl, rfl⟩ := hp
        exact rpa_form s vt w hm sz b hr hs
      · rw [if_neg (by rw [len_list]; exact hs)] at hp
        obtain ⟨P, e2, ha⟩ : ∃ P e2, al b = (P, e2) := ⟨_, _, rfl⟩
        simp only [ha] at hp
        exact rpa_main s vt ts w hm hts htl sz b hr hs P e2 ha B e hp
    · rw [if_pos ht] at hp
      simp only [Prod.mk.injEq] at hp
      obtain ⟨rfl, rfl⟩ := hp
      exact rpa_tag s vt w hm t sz b hr ht
  · rw [if_pos he] at hp
    simp only [Prod.mk.injEq] at hp
    obtain ⟨rfl, rfl⟩ := hp
    exact rpa_err s vt w hm t sz e1 b hr he

/-- Texts lie in memory from a block's beginning, one behind the other. -/
def StrU (w : World) (v : Value) (l : List (List UInt8)) : Prop :=
  ∃ a c, v = .slice a l.length c ∧ ∀ i (hi : i < l.length), ∃ g, a = some ⟨g, 0, none⟩ ∧ g < w.heap.size ∧ w.cell? ⟨g, i, none⟩ = some (.string ⟨l[i].toArray⟩)
theorem strU_owns {w : World} {B : Nat} {v : Value} {l : List (List UInt8)} (h : w.ownsRow B 9 1 v l.length (sc l)) : StrU w v l := by
  rcases h.2 with ⟨rfl, h0⟩ | ⟨g, cap, cur, rfl, _, hg, _⟩
  · exact ⟨none, 0, by rw [h0], fun i hi => by omega⟩
  · refine ⟨_, cap, rfl, fun i hi => ⟨g, rfl, (Array.getElem?_eq_some_iff.1 hg).1, ?_⟩⟩
    rw [h.cellAt i (by omega)]
    simp [sc, hi]
theorem strU_below {w w' : World} {v : Value} {l : List (List UInt8)} (h : StrU w v l) (hb : Below w.heap.size w w') : StrU w' v l := by
  obtain ⟨a, c, rfl, h⟩ := h
  refine ⟨a, c, rfl, fun i hi => ?_⟩
  obtain ⟨g, rfl, hg, hc⟩ := h i hi
  exact ⟨g, rfl, Nat.lt_of_lt_of_le hg hb.size, (hb.cell (p := ⟨g, i, none⟩) hg).trans hc⟩

/-- What reads memory alone hands back. -/
def DrewPost (b : Bool) (w : World) (en : Ending) (w' : World) : Prop := en = .returned (.bool b) ∧ ∃ n, w' = w.drewN n

set_option maxHeartbeats 800000 in
set_option maxRecDepth 100000 in
theorem texts_any (l : List (List UInt8)) (v1 v2 : Value) (w : World) (h1 : StrU w v1 l) (h2 : StrU w v2 l) (hl : l.length ≤ 1024) :
    Calls Try.prog 15 #[v1, v2] w (DrewPost true w) := by
  obtain ⟨a1, c1, rfl, hq1⟩ := h1
  obtain ⟨a2, c2, rfl, hq2⟩ := h2
  have HQ1 := Lib.hid hq1
  have HQ2 := Lib.hid hq2
  clear hq1 hq2
  go_enter Try.func15, Try.ntmps15
  go_wp2
  go_loopw [5] (fun v5 wr => ∃ k q : Nat, v5 = .int .i64 k ∧ k ≤ l.length ∧ wr = w.drewN q) (fun v5 _ => l.length - (intOf v5).toNat)
  case atStart => exact ⟨0, 0, rfl, Nat.zero_le _, rfl⟩
  case round =>
    obtain ⟨k, q, rfl, hk, rfl⟩ := hrel
    by_cases hlt : k < l.length
    · obtain ⟨g1, rfl, _, hc1⟩ := HQ1.out k hlt
      obtain ⟨g2, rfl, _, hc2⟩ := HQ2.out k hlt
      obtain ⟨x, hx⟩ : ∃ x, l[k] = x := ⟨_, rfl⟩
      rw [hx] at hc1 hc2
      clear hx
      have hi0 : (0 : Int) ≤ k := by omega
      have hi1 : (k : Int) < (l.length : Int) := by omega
      go_wp2
      go_quiet (fail)
      go_wp2
      exact ⟨⟨k + 1, q + nq, by go_num, by omega, rfl⟩, by simp [intOf]; omega⟩
    · go_wp2
      go_ret
      exact ⟨rfl, q, rfl⟩
end Go.Proofs.Ytkjmgpannjnlfaa
