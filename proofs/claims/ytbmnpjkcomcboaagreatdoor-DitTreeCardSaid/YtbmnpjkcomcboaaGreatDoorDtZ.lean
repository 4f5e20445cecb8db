/- Whatever becomes of entries: the one above each is there, and stands ahead of it. -/
import Derived.Test.YtbmnpjkcomcboaaGreatDoorDtWX
import Derived.Test.YtbmnpjkcomcboaaGreatDoorDtArg
import Derived.Test.YtbmnpjkcomcboaaGreatDoorScL
import Derived.Test.YtbmnpjkcomcboaaGreatDoorPlEF
namespace Go.Proofs.YtbmnpjkcomcboaaGreatDoor
set_option linter.unusedSimpArgs false
set_option linter.unusedVariables false
open Go Go.RowKit Go.Proofs.BerK Go.Proofs.MemK Go.Proofs.UtfK Go.Maps Go.WideMaps

theorem fewZ_of {dn : List UInt8} {A : List Atr} (h : FewA dn A) : FewZ A ∧ dn.length ≤ 300 := by
  obtain ⟨h1, h2, h3⟩ := h
  refine ⟨⟨⟨by omega, fun a ha => ?_⟩, ⟨by omega, fun a ha => ?_⟩⟩, h1⟩
  · obtain ⟨i, hi, rfl⟩ := List.mem_iff_getElem.1 ha
    obtain ⟨k1, k2, k3⟩ := h3 i hi
    exact ⟨by omega, by omega, fun s hs => by obtain ⟨j, hj, rfl⟩ := List.mem_iff_getElem.1 hs; have := k3 j hj; omega⟩
  · obtain ⟨i, hi, rfl⟩ := List.mem_iff_getElem.1 ha
    obtain ⟨k1, k2, k3⟩ := h3 i hi
    exact ⟨by omega, by omega, fun s hs => by obtain ⟨j, hj, rfl⟩ := List.mem_iff_getElem.1 hs; have := k3 j hj; omega⟩
theorem par_ahead {L : List Ent} (hT : TrL L) (i : Nat) (hi : i < (L.map (·.1)).length) : (parL (L.map (·.1))[i]).1 = [] ∨ ∃ k, ∃ hk : k < (L.map (·.1)).length, k < i ∧ (L.map (·.1))[k] = (parL (L.map (·.1))[i]).1 := by
  have hi' : i < L.length := by simpa using hi
  have e : (L.map (·.1))[i] = L[i].1 := by simp
  rw [e]
  rcases hT.above L[i] (List.getElem_mem hi') with h | ⟨x, hx, h⟩
  · exact .inl h
  · right
    obtain ⟨k, hk, rfl⟩ := List.mem_iff_getElem.1 hx
    refine ⟨k, by simpa using hk, ?_, by simpa using h⟩
    obtain ⟨p, l, h1, _, h3, _⟩ := nm_par (hT.nm L[i] (List.getElem_mem hi'))
    rw [h1] at h
    have hb : bfN L[k].1 L[i].1 = true := by
      unfold bfN
      rw [h, h3]
      exact ltP_pre _ _ _
    rcases Nat.lt_trichotomy k i with q | q | q
    · exact q
    · subst q
      rw [bf_irrefl] at hb; cases hb
    · have := List.pairwise_iff_getElem.1 hT.up i k hi' hk q
      rw [bf_asymm hb] at this; cases this
set_option maxHeartbeats 25600000 in
set_option maxRecDepth 100000 in
theorem dttree_any (D : List Dd) (v : Value) (w : World) (h : DdAt w v D) (he : ErrOk w) : Calls Tryz.prog 4 #[v] w (BB true w) := by
  obtain ⟨a, c, rfl, hcells⟩ := h
  have HE := Lib.hid he
  have HC := Lib.hid hcells
  obtain ⟨n, hn⟩ : ∃ n, D.length = n := ⟨_, rfl⟩
  have HN := Lib.hid hn
  rw [hn]
  clear hcells he hn
  by_cases h24 : 24 < n
  · have q1 : (24 : Int) < (n : Int) := by omega
    have HAw := Lib.hid (dtaw_any w HE.out)
    go_enter Tryz.func4, Tryz.ntmps4
    go_wp2_with fail
    refine HAw.out.mono ?_
    rintro en w1 ⟨rfl, hb⟩
    go_wp2
    go_ret
    exact bB_mk rfl hb
  · have q1 : (n : Int) ≤ 24 := by omega
    have q2 : ¬ (24 : Int) < (n : Int) := by omega
    go_enter Tryz.func4, Tryz.ntmps4
    go_wp2_with fail
    refine (plain_any w).mono ?_
    rintro en w1 ⟨sb, rfl, hsc, hb1⟩
    have HWl := Lib.hid (show Wld w1 sb from fun w' hb => ⟨scAt_below hsc hb, errOk_below HE.out (hb1.trans (hb.mono hb1.size))⟩)
    have HB1 := Lib.hid hb1
    clear hsc hb1
    go_wp2_with fail
    refine (dtnew_any (some ⟨sb, 0, none⟩) w1).mono ?_
    rintro en w2 ⟨g, S0, rfl, htr, hS, hg, hb2, _⟩
    have H0 := Lib.hid (show TIn w1 w2 sb g S0 [] from ⟨htr, hb2, trL_nil, by decide⟩)
    clear htr hS hg hb2
    go_wp2
    go_loopw [4] (fun iv wr => ∃ (i : Nat) (S : Nat → Prop) (L : List Ent), i ≤ n ∧ iv = .int .i64 (i : Nat) ∧ TIn w1 wr sb g S L) (fun iv _ => n - (intOf iv).toNat)
    case atStart => exact ⟨0, S0, [], by omega, rfl, H0.out⟩
    case round =>
      obtain ⟨i, S, L, hi, rfl, ht⟩ := hrel
      have HT := Lib.hid ht
      clear ht
      by_cases hlt : i < n
      · have hkl : (i : Int) < (n : Int) := by omega
        have hiD : i < D.length := by rw [HN.out]; exact hlt
        obtain ⟨ag, ao, av, rfl, hag, k0w, k1w, k2w, hA⟩ := HC.out i hiD
        have hbw := HB1.out.trans (HT.out.2.1.mono HB1.out.size)
        have HBw := Lib.hid hbw
        obtain ⟨⟨kd, dn, A⟩, hdi⟩ : ∃ x, D[i] = x := ⟨_, rfl⟩
        rw [hdi] at k0w k1w hA
        dsimp only at k0w k1w hA
        have HA := Lib.hid (And.intro hA (And.intro hag (And.intro k0w (And.intro k1w k2w))))
        obtain ⟨aa, ac, rfl⟩ := eaAt_slice hA
        obtain ⟨an, han⟩ : ∃ m, A.length = m := ⟨_, rfl⟩
        rw [han] at HA k2w
        have k0 := (hbw.cell (p := ⟨ag, _, none⟩) hag).trans k0w
        have k1 := (hbw.cell (p := ⟨ag, _, none⟩) hag).trans k1w
        have k2 := (hbw.cell (p := ⟨ag, _, none⟩) hag).trans k2w
        have HFw := Lib.hid (few9_any dn A _ wr (eaAt_at (eaAt_below HA.out.1 hbw)))
        clear hbw k0w k1w k2w hA hdi hag han
        go_wp2_with fail
        refine HFw.out.mono ?_
        rintro en w3 ⟨hfe, hb3⟩
        have HT3 := Lib.hid (tin_below HT.out hb3)
        have hb3w := HBw.out.trans (hb3.mono HBw.out.size)
        have HB3 := Lib.hid hb3w
        clear k0 k1 k2
        have k0 := (hb3w.cell (p := ⟨ag, _, none⟩) HA.out.2.1).trans HA.out.2.2.1
        have k1 := (hb3w.cell (p := ⟨ag, _, none⟩) HA.out.2.1).trans HA.out.2.2.2.1
        have k2 := (hb3w.cell (p := ⟨ag, _, none⟩) HA.out.2.1).trans HA.out.2.2.2.2
        clear hb3 hb3w
        rcases hfe with rfl | ⟨rfl, hfew⟩
        · go_wp2
          exact ⟨⟨i + 1, S, L, by omega, by go_num, HT3.out⟩, by simp [intOf]; omega⟩
        · obtain ⟨hz, hdn⟩ := fewZ_of hfew
          have HZ := Lib.hid hz
          have HEa := Lib.hid (eaAt_below HA.out.1 HB3.out)
          clear hz hfew
          by_cases hk0 : kd = 0
          · subst hk0
            go_wp2_with fail
            refine (tin_add HWl.out HT3.out HEa.out HZ.out (by omega)).mono ?_
            rintro en w4 ⟨rfl, S', ht', _, _⟩
            have HT4 := Lib.hid ht'
            clear ht' k0 k1 k2
            go_wp2
            exact ⟨⟨i + 1, S', _, by omega, by go_num, HT4.out⟩, by simp [intOf]; omega⟩
          · have z0 : (kd == 0) = false := by simpa using hk0
            by_cases hk1 : kd = 1
            · subst hk1
              go_wp2_with fail
              refine (tin_del HWl.out HT3.out (by omega)).mono ?_
              rintro en w4 ⟨rfl, S', ht', _, _⟩
              have HT4 := Lib.hid ht'
              clear ht' k0 k1 k2
              go_wp2
              exact ⟨⟨i + 1, S', _, by omega, by go_num, HT4.out⟩, by simp [intOf]; omega⟩
            · have z1 : (kd == 1) = false := by simpa using hk1
              go_wp2_with fail
              refine (tin_rep HWl.out HT3.out HEa.out HZ.out (by omega)).mono ?_
              rintro en w4 ⟨rfl, S', ht', _, _⟩
              have HT4 := Lib.hid ht'
              clear ht' k0 k1 k2
              go_wp2
              exact ⟨⟨i + 1, S', _, by omega, by go_num, HT4.out⟩, by simp [intOf]; omega⟩
      · obtain rfl : i = n := by omega
        clear hlt
        go_wp2_with fail
        refine (dtnames_any _ g _ S L wr HT.out.1 HT.out.2.2.1 HT.out.2.2.2).mono ?_
        rintro en v1 ⟨nv, rfl, hnr, hb⟩
        have tx := txR_owns hnr
        have hpa := fun j hj => par_ahead HT.out.2.2.1 j hj
        have hXl : (L.map (·.1)).length ≤ 1024 := by have := HT.out.2.2.2; simpa using this
        have hbv := (HB1.out.trans (HT.out.2.1.mono HB1.out.size)).trans (hb.mono (HB1.out.trans (HT.out.2.1.mono HB1.out.size)).size)
        obtain ⟨X, hX⟩ : ∃ X, L.map (·.1) = X := ⟨_, rfl⟩
        rw [hX] at tx hpa hXl hnr
        obtain ⟨na, nc, rfl⟩ := ownsRow_slice hnr
        obtain ⟨m, hm⟩ : ∃ m, X.length = m := ⟨_, rfl⟩
        rw [hm] at tx hXl
        obtain ⟨xa, xc, he1, hxc⟩ := tx
        injection he1 with e1 e2 e3
        subst e1 e3
        have HX := Lib.hid (And.intro hpa (And.intro hxc hm))
        have HBv := Lib.hid hbv
        rw [hm]
        clear hpa hxc hm hbv hb hnr hX e2
        go_wp2
        go_loopw [6] (fun iv wr => ∃ j : Nat, j ≤ m ∧ iv = .int .i64 (j : Nat) ∧ Below v1.heap.size v1 wr) (fun iv _ => m - (intOf iv).toNat)
        case atStart => exact ⟨0, by omega, rfl, Below.refl _ _⟩
        case round =>
          obtain ⟨j, hj, rfl, hb⟩ := hrel
          obtain ⟨wo, rfl⟩ : ∃ x, x = wr := ⟨_, rfl⟩
          have HB := Lib.hid hb
          clear hb
          by_cases hlt : j < m
          · have hkl : (j : Int) < (m : Int) := by omega
            have hjX : j < X.length := by rw [HX.out.2.2]; exact hlt
            obtain ⟨xg, xo, rfl, hxg, hx0⟩ := HX.out.2.1 j hjX
            have x0 := (HB.out.cell (p := ⟨xg, _, none⟩) hxg).trans hx0
            have hpar := HX.out.1 j hjX
            obtain ⟨s, hs⟩ : ∃ s, X[j] = s := ⟨_, rfl⟩
            rw [hs] at x0 hpar
            have HPa := Lib.hid (rparent_any s wo)
            obtain ⟨⟨p, ok⟩, hpo⟩ : ∃ x, parL s = x := ⟨_, rfl⟩
            rw [hpo] at HPa hpar
            have HPr := Lib.hid hpar
            clear hx0 hs hpar hpo
            go_wp2_with fail
            refine HPa.out.mono ?_
            rintro en w5 ⟨rfl, hb5⟩
            have HB5 := Lib.hid (HB.out.trans (hb5.mono HB.out.size))
            clear hb5 x0
            go_wp2
            go_loopw [9, 10] (fun bv iv wi => ∃ (k : Nat) (b : Bool), k ≤ j ∧ bv = .bool b ∧ iv = .int .i64 (k : Nat) ∧ Below v1.heap.size v1 wi ∧ (p = [] → b = true) ∧ ∀ q (hq : q < X.length), q < k → X[q] = p → b = true) (fun _ iv _ => j - (intOf iv).toNat)
            case atStart => exact ⟨0, _, by omega, rfl, rfl, HB5.out, fun h => by simp [h], fun q hq h => by omega⟩
            case round =>
              obtain ⟨k, b, hk, rfl, rfl, hbi, hp0, hpq⟩ := hrel
              obtain ⟨wi, rfl⟩ : ∃ x, x = wr := ⟨_, rfl⟩
              have HI := Lib.hid (And.intro hbi (And.intro hp0 hpq))
              clear hbi hp0 hpq
              by_cases hlk : k < j
              · have hkj : (k : Int) < (j : Int) := by omega
                cases b with
                | true =>
                  go_wp2
                  exact ⟨⟨k + 1, true, by omega, rfl, by go_num, HI.out.1, fun _ => rfl, fun _ _ _ _ => rfl⟩, by simp [intOf]; omega⟩
                | false =>
                  have hkX : k < X.length := by omega
                  have hkm : (k : Int) < (m : Int) := by omega
                  obtain ⟨yg, yo, hye, hyg, hy0⟩ := HX.out.2.1 k hkX
                  injection hye with hye
                  injection hye with hy1 hy2 _
                  subst hy1 hy2
                  have y0 := (HI.out.1.cell (p := ⟨xg, _, none⟩) hyg).trans hy0
                  obtain ⟨s2, hs2⟩ : ∃ s, X[k] = s := ⟨_, rfl⟩
                  rw [hs2] at y0
                  have HS2 := Lib.hid hs2
                  clear hy0 hs2
                  by_cases hsp : s2 = p
                  · subst hsp
                    go_wp2
                    exact ⟨⟨k + 1, true, by omega, rfl, by go_num, HI.out.1, fun _ => rfl, fun _ _ _ _ => rfl⟩, by simp [intOf]; omega⟩
                  · have hspb : (s2 == p) = false := by simpa using hsp
                    go_wp2
                    refine ⟨⟨k + 1, false, by omega, rfl, by go_num, HI.out.1, HI.out.2.1, fun q hq hqk hqe => ?_⟩, by simp [intOf]; omega⟩
                    by_cases hqk2 : q < k
                    · exact HI.out.2.2 q hq hqk2 hqe
                    · obtain rfl : q = k := by omega
                      exact absurd (HS2.out.symm.trans hqe) hsp
              · obtain rfl : k = j := by omega
                obtain rfl : b = true := by
                  rcases HPr.out with h | ⟨q, hq, hqj, h⟩
                  · exact HI.out.2.1 h
                  · exact HI.out.2.2 q hq hqj h
                clear hlk
                go_wp2
                exact ⟨⟨k + 1, by omega, by go_num, HI.out.1⟩, by simp [intOf]; omega⟩
          · obtain rfl : j = m := by omega
            clear hlt
            have HAw := Lib.hid (dtaw_any wo (errOk_below HE.out (HBv.out.trans (HB.out.mono HBv.out.size))))
            go_wp2_with fail
            refine HAw.out.mono ?_
            rintro en w6 ⟨rfl, hb6⟩
            have HB6 := Lib.hid ((HBv.out.trans (HB.out.mono HBv.out.size)).trans (hb6.mono (HBv.out.trans (HB.out.mono HBv.out.size)).size))
            clear hb6
            go_wp2
            go_ret
            exact bB_mk rfl HB6.out
end Go.Proofs.YtbmnpjkcomcboaaGreatDoor
