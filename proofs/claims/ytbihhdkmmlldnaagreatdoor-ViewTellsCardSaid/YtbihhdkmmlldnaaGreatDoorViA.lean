/- Rules gone over once, and who reads by them; whether an entry is seen. -/
import Derived.Test.YtbihhdkmmlldnaaGreatDoorAcAE
import Derived.Test.YtbihhdkmmlldnaaGreatDoorViM
import Derived.Test.YtbihhdkmmlldnaaGreatDoorSnAL
namespace Go.Proofs.YtbihhdkmmlldnaaGreatDoor
set_option linter.unusedSimpArgs false
set_option linter.unusedVariables false
open Go Go.RowKit Go.Proofs.BerK Go.Proofs.MemK Go.Proofs.UtfK

theorem Tryz.viinfo : (Tryz.prog.info? 34).map (fun i => (i.zero, i.size, i.bytes)) = some (some (.agg #[.string ByteArray.empty, .string ByteArray.empty, .string ByteArray.empty, .int .i64 0, .bool false]), 5, 64) := by kernel_rfl
theorem ne_fn (s t : List UInt8) (r : Rl) : fnI (frA [evR r] s t [42] 1) = if neB s t r = true then 0 else -1 := by
  unfold neB
  rw [fr_one]
  split
  · simp [fnI]
  · simp [fnI]
theorem ne_step (L : List Rl) (s t : List UInt8) (k : Nat) (hk : k < L.length) : nhL (L.take (k + 1)) s t = if neB s t L[k] = true then nhL (L.take k) s t ++ [heR L[k]] else nhL (L.take k) s t := by
  unfold nhL
  rw [List.take_succ_eq_append_getElem hk, List.filter_append, List.map_append]
  split
  · rename_i h; simp [h]
  · rename_i h; simp [h]
theorem ne_len (L : List Rl) (s t : List UInt8) : (nhL L s t).length ≤ L.length := by
  unfold nhL
  rw [List.length_map]
  exact List.length_filter_le _ _
def NePost (N : List Rl) (w : World) (en : Ending) (w' : World) : Prop := ∃ v, en = .returned v ∧ w'.ownsRow w.heap.size 34 5 v N.length (rlCs N) ∧ Below w.heap.size w w'
set_option maxHeartbeats 6400000 in
set_option maxRecDepth 100000 in
theorem here_any (v : Value) (L : List Rl) (s t : List UInt8) (w : World) (he : ErrOk w) (hl : L.length ≤ 1000) (h : RlAt w v L) : Calls Tryz.prog 54 #[v, .string ⟨s.toArray⟩, .string ⟨t.toArray⟩] w (NePost (nhL L s t) w) := by
  obtain ⟨a, c, rfl, _⟩ := id h
  have HA := Lib.hid h
  have HE := Lib.hid he
  clear h he
  obtain ⟨n, hn⟩ : ∃ n, L.length = n := ⟨_, rfl⟩
  have HL := Lib.hid hn
  rw [hn] at hl ⊢
  clear hn
  go_enter Tryz.func54, Tryz.ntmps54
  go_wp2
  go_loopw [7, 13] (fun nv v wr => ∃ k : Nat, k ≤ n ∧ v = .int .i64 (k : Nat) ∧ wr.ownsRow w.heap.size 34 5 nv (nhL (L.take k) s t).length (rlCs (nhL (L.take k) s t)) ∧ Below w.heap.size w wr) (fun _ v _ => n - (intOf v).toNat)
  case atStart => exact ⟨0, by omega, rfl, World.ownsRow_nil _ _ _ _, Below.refl _ _⟩
  case round =>
    obtain ⟨k, hk, rfl, hown, hb⟩ := hrel
    obtain ⟨na, nc, hnv⟩ := ownsRow_slice hown
    by_cases hlt : k < n
    · have hkl : (k : Int) < (n : Int) := by omega
      have hkL : k < L.length := by rw [HL.out]; exact hlt
      have hA2 := rlAt_below HA.out hb
      rw [HL.out] at hA2
      obtain ⟨g, o, rfl, hg, c0, c1, c2, c3, c4⟩ := rlAt_five hA2 k hkL
      have hst := ne_step L s t k hkL
      have hlen := ne_len (L.take k) s t
      rw [List.length_take] at hlen
      obtain ⟨⟨s0, s1, s2, s3, s4⟩, hr⟩ : ∃ x, L[k] = x := ⟨_, rfl⟩
      rw [hr] at c0 c1 c2 c3 c4 hst
      dsimp only at c0 c1 c2 c3 c4
      obtain ⟨N, hN⟩ : ∃ N, nhL (L.take k) s t = N := ⟨_, rfl⟩
      rw [hN] at hown hst hnv hlen
      subst hnv
      obtain ⟨W, hW⟩ : ∃ W, (wr.alloc (.cells #[.string ⟨s0.toArray⟩, .string ⟨s1.toArray⟩, .string ⟨s2.toArray⟩, .int .i64 s3, .bool s4] 34)).setCell ⟨wr.heap.size, 2, none⟩ (.string ⟨#[42]⟩) = W := ⟨_, rfl⟩
      have hbx : W.heap[wr.heap.size]? = some (.cells #[.string ⟨s0.toArray⟩, .string ⟨s1.toArray⟩, .string ⟨#[42]⟩, .int .i64 s3, .bool s4] 34 (0, 0)) := by
        rw [← hW]
        exact obj_set (heap_alloc_new wr _) 2 _
      have hbW : Below wr.heap.size wr W := by
        rw [← hW]
        exact ((Below.refl _ wr).alloc (Nat.le_refl _) _).setCell (p := ⟨wr.heap.size, 2, none⟩) (Nat.le_refl _) _
      have d0 := obj_cell hbx 0 _ rfl
      have d1 := obj_cell hbx 1 _ rfl
      have d2 := obj_cell hbx 2 _ rfl
      have d3 := obj_cell hbx 3 _ rfl
      have d4 := obj_cell hbx 4 _ rfl
      have hz : wr.heap.size < W.heap.size := obj_lt hbx
      have hbl : Below W.heap.size W (W.alloc (.cells #[.string ⟨s0.toArray⟩, .string ⟨s1.toArray⟩, .string ⟨#[42]⟩, .int .i64 s3, .bool s4] 34)) := (Below.refl _ W).alloc (Nat.le_refl _) _
      have hbw : Below w.heap.size w W := hb.trans (hbW.mono hb.size)
      have hF : Calls Tryz.prog 13 #[.slice (some ⟨W.heap.size, 0, none⟩) 1 1, .string ⟨s.toArray⟩, .string ⟨t.toArray⟩, .string ⟨#[42]⟩, .int .i64 1] (W.alloc (.cells #[.string ⟨s0.toArray⟩, .string ⟨s1.toArray⟩, .string ⟨#[42]⟩, .int .i64 s3, .bool s4] 34)) (DepPost (fnI (frA [evR (s0, s1, s2, s3, s4)] s t [42] 1)) (W.alloc (.cells #[.string ⟨s0.toArray⟩, .string ⟨s1.toArray⟩, .string ⟨#[42]⟩, .int .i64 s3, .bool s4] 34))) :=
        afirst_any _ [evR (s0, s1, s2, s3, s4)] s t [42] 1 _ (errOk_below HE.out (hbw.trans (hbl.mono hbw.size))) (rlAt_block (L := [evR (s0, s1, s2, s3, s4)]) 1 (heap_alloc_new W _))
      rw [ne_fn] at hF
      have HX := Lib.hid (And.intro hb (And.intro hown (And.intro hbW hbx)))
      have HW := Lib.hid (And.intro hbl hbw)
      obtain ⟨q, hq⟩ : ∃ q, neB s t (s0, s1, s2, s3, s4) = q := ⟨_, rfl⟩
      rw [hq] at hF hst
      cases q with
      | false =>
        have HF := Lib.hid (show Calls Tryz.prog 13 #[.slice (some ⟨W.heap.size, 0, none⟩) 1 1, .string ⟨s.toArray⟩, .string ⟨t.toArray⟩, .string ⟨#[42]⟩, .int .i64 1] (W.alloc (.cells #[.string ⟨s0.toArray⟩, .string ⟨s1.toArray⟩, .string ⟨#[42]⟩, .int .i64 s3, .bool s4] 34)) (DepPost (-1) (W.alloc (.cells #[.string ⟨s0.toArray⟩, .string ⟨s1.toArray⟩, .string ⟨#[42]⟩, .int .i64 s3, .bool s4] 34))) from hF)
        have HS := Lib.hid (show nhL (L.take (k + 1)) s t = N from hst)
        clear hb hown hA2 hr hst hN hq hF hbx hbW hbl hbw
        go_wp2_with fail
        refine HF.out.mono ?_
        rintro e w5 ⟨rfl, hb5⟩
        have HB5 := Lib.hid (HW.out.1.trans (hb5.mono HW.out.1.size))
        clear hb5
        go_wp2
        refine ⟨⟨k + 1, by omega, by go_num, ?_, HW.out.2.trans (HB5.out.mono HW.out.2.size)⟩, by simp [intOf]; omega⟩
        rw [HS.out]
        exact ownsRow_below (ownsRow_below HX.out.2.1 HX.out.2.2.1) HB5.out
      | true =>
        have HF := Lib.hid (show Calls Tryz.prog 13 #[.slice (some ⟨W.heap.size, 0, none⟩) 1 1, .string ⟨s.toArray⟩, .string ⟨t.toArray⟩, .string ⟨#[42]⟩, .int .i64 1] (W.alloc (.cells #[.string ⟨s0.toArray⟩, .string ⟨s1.toArray⟩, .string ⟨#[42]⟩, .int .i64 s3, .bool s4] 34)) (DepPost 0 (W.alloc (.cells #[.string ⟨s0.toArray⟩, .string ⟨s1.toArray⟩, .string ⟨#[42]⟩, .int .i64 s3, .bool s4] 34))) from hF)
        have HS := Lib.hid (show nhL (L.take (k + 1)) s t = N ++ [heR (s0, s1, s2, s3, s4)] from hst)
        obtain ⟨m, hm⟩ : ∃ m, N.length = m := ⟨_, rfl⟩
        have HM := Lib.hid hm
        rw [hm] at hlen ⊢
        have hm2 : m ≤ 1000 := by omega
        clear hb hown hA2 hr hst hN hq hF hbx hbW hbl hbw hm hlen
        go_wp2_with fail
        refine HF.out.mono ?_
        rintro e w5 ⟨rfl, hb5⟩
        have HB5 := Lib.hid (HW.out.1.trans (hb5.mono HW.out.1.size))
        have k3 := (HB5.out.cell (p := ⟨wr.heap.size, 3, none⟩) hz).trans d3
        have k4 := (HB5.out.cell (p := ⟨wr.heap.size, 4, none⟩) hz).trans d4
        have hrow := ownsRow_below (ownsRow_below HX.out.2.1 HX.out.2.2.1) HB5.out
        rw [HM.out] at hrow
        have hsz5 : w.heap.size ≤ w5.heap.size := (HW.out.2.trans (HB5.out.mono HW.out.2.size)).size
        have HRow := Lib.hid hrow
        clear hb5 hrow
        go_wp2_with (at_builtin; refine wpList_pushg rfl (.tmp 26) (.tmp 33) 22 34 rfl w.heap.size 5 64 _ Tryz.viinfo Tryz.underlying22 rfl (by decide) [.string ⟨#[42]⟩, .string ⟨#[]⟩, .string ⟨s2.toArray⟩, .int .i64 s3, .bool s4] rfl (by simp [Value.oneCell']) (.slice na m nc) m (rlCs N) rfl _ rfl rfl HRow.out (by unfold maxLen; omega) (by omega) hsz5 ?_)
        intro v2 w6 hown6 hb6
        have e6 : rlCs N ++ [.string ⟨#[42]⟩, .string ⟨#[]⟩, .string ⟨s2.toArray⟩, .int .i64 s3, .bool s4] = rlCs (N ++ [heR (s0, s1, s2, s3, s4)]) := by
          rw [rlCs_app]; rfl
        rw [e6] at hown6
        have H6 := Lib.hid (And.intro hown6 ((HW.out.2.trans (HB5.out.mono HW.out.2.size)).trans hb6))
        clear hown6 hb6 e6
        go_wp2
        refine ⟨⟨k + 1, by omega, by go_num, ?_, H6.out.2⟩, by simp [intOf]; omega⟩
        rw [HS.out, List.length_append, HM.out]
        exact H6.out.1
    · obtain rfl : k = n := by omega
      have hl2 : L.take k = L := by rw [← HL.out]; exact List.take_length
      rw [hl2] at hown hnv
      subst hnv
      have H := Lib.hid (And.intro hown hb)
      clear hown hb
      go_wp2
      go_ret
      exact ⟨_, rfl, H.out.1, H.out.2⟩

/-! ### Who reads -/
/-- A call that tells whether somebody may read an attribute; what it holds lies from B on, and ahead of U. -/
def RdFn (w : World) (B U : Nat) (fv : Value) (N : List Rl) : Prop :=
  ∃ (bn bw : Nat) (nv : Value) (x : List UInt8), fv = .func (.func 55) #[] #[.pointer (some ⟨bn, 0, none⟩), .pointer (some ⟨bw, 0, none⟩)] ∧ w.cell? ⟨bn, 0, none⟩ = some nv ∧ w.cell? ⟨bw, 0, none⟩ = some (.string ⟨x.toArray⟩) ∧ (B ≤ bn ∧ bn < U ∧ B ≤ bw ∧ bw < U) ∧ w.ownsRow B 34 5 nv N.length (rlCs N) ∧ (∀ k, nv.ownBlock = some k → k < U) ∧ U ≤ w.heap.size
theorem rdFn_chg {S : Nat → Prop} {w w' : World} {B U : Nat} {fv : Value} {N : List Rl} (h : RdFn w B U fv N) (hc : Chg S w w') (hs : ∀ k, B ≤ k → k < U → ¬ S k) : RdFn w' B U fv N := by
  obtain ⟨bn, bw, nv, x, h1, h2, h3, ⟨h4, h5, h6, h7⟩, h8, h9, h10⟩ := h
  have hcell : ∀ b, B ≤ b → b < U → w'.cell? ⟨b, 0, none⟩ = w.cell? ⟨b, 0, none⟩ := fun b hb hU => by
    unfold World.cell?
    have := hc.block b (by omega) (hs b hb hU)
    simp only [this]
  refine ⟨bn, bw, nv, x, h1, (hcell bn h4 h5).trans h2, (hcell bw h6 h7).trans h3, ⟨h4, h5, h6, h7⟩, ownsRow_chg h8 hc (fun k hk => hs k (h8.lt k hk).1 (h9 k hk)), h9, ?_⟩
  have := hc.size
  omega
theorem rdFn_below {w w' : World} {B U : Nat} {fv : Value} {N : List Rl} (h : RdFn w B U fv N) (hb : Below w.heap.size w w') : RdFn w' B U fv N :=
  rdFn_chg h (Chg.ofBelow (S := fun _ => False) hb) (fun _ _ _ h => h)
def RfPost (N : List Rl) (w : World) (en : Ending) (w' : World) : Prop := ∃ bn bw, en = .returned (.func (.func 55) #[] #[.pointer (some ⟨bn, 0, none⟩), .pointer (some ⟨bw, 0, none⟩)]) ∧ RdFn w' w.heap.size w'.heap.size (.func (.func 55) #[] #[.pointer (some ⟨bn, 0, none⟩), .pointer (some ⟨bw, 0, none⟩)]) N ∧ Below w.heap.size w w'
set_option maxHeartbeats 1600000 in
set_option maxRecDepth 100000 in
theorem reader_any (v : Value) (L : List Rl) (s t : List UInt8) (w : World) (he : ErrOk w) (hl : L.length ≤ 1000) (h : RlAt w v L) : Calls Tryz.prog 39 #[v, .string ⟨s.toArray⟩, .string ⟨t.toArray⟩] w (RfPost (nhL L s t) w) := by
  obtain ⟨W, hW⟩ : ∃ W, w.alloc (.cells #[.string ⟨s.toArray⟩] 9) = W := ⟨_, rfl⟩
  have hb0 : Below w.heap.size w W := by rw [← hW]; exact (Below.refl _ w).alloc (Nat.le_refl _) _
  have hg : W.heap[w.heap.size]? = some (.cells #[.string ⟨s.toArray⟩] 9 (0, 0)) := by rw [← hW]; exact heap_alloc_new w _
  have d0 := obj_cell hg 0 _ rfl
  have hz : w.heap.size < W.heap.size := obj_lt hg
  have HH := Lib.hid (here_any v L s t W (errOk_below he hb0) hl (rlAt_below h hb0))
  obtain ⟨a, c, rfl, _⟩ := id h
  obtain ⟨n, hn⟩ : ∃ n, L.length = n := ⟨_, rfl⟩
  rw [hn] at HH ⊢
  have HB0 := Lib.hid hb0
  clear h he hl hg hb0 hn
  go_enter Tryz.func39, Tryz.ntmps39
  go_wp2_with fail
  refine HH.out.mono ?_
  rintro e w2 ⟨nv, rfl, hown, hb2⟩
  obtain ⟨na, nc, rfl⟩ := ownsRow_slice hown
  have k0 := (hb2.cell (p := ⟨w.heap.size, 0, none⟩) hz).trans d0
  have HR := Lib.hid (And.intro hown (And.intro hb2 k0))
  have HZ := Lib.hid hz
  obtain ⟨m, hm⟩ : ∃ m, (nhL L s t).length = m := ⟨_, rfl⟩
  have HM := Lib.hid hm
  rw [hm]
  clear hown hb2 hm
  go_wp2
  go_ret
  have hb3 : Below w2.heap.size w2 (w2.alloc (.cells #[.slice na m nc] 22)) := (Below.refl _ w2).alloc (Nat.le_refl _) _
  have hs2 := HR.out.2.1.size
  have hzz := HZ.out
  have hs0 := HB0.out.size
  have hsz : (w2.alloc (.cells #[.slice na m nc] 22)).heap.size = w2.heap.size + 1 := by simp
  have hrow := HR.out.1
  refine ⟨w2.heap.size, w.heap.size, rfl, ⟨w2.heap.size, w.heap.size, .slice na m nc, s, rfl, obj_cell (heap_alloc_new w2 _) 0 _ rfl, (hb3.cell (p := ⟨w.heap.size, 0, none⟩) (by show w.heap.size < w2.heap.size; omega)).trans HR.out.2.2, ⟨by omega, by omega, by omega, by omega⟩, ?_, fun k hk => ?_, Nat.le_refl _⟩, ?_⟩
  · have := ownsRow_below (ownsRow_base hrow hs0) hb3
    rw [HM.out] at this
    rw [HM.out]
    exact this
  · rw [HM.out] at hrow
    have := (hrow.lt k hk).2
    omega
  · exact (HB0.out.trans (HR.out.2.1.mono HB0.out.size)).alloc (by omega) _
set_option maxHeartbeats 1600000 in
set_option maxRecDepth 100000 in
theorem reads_any {B U : Nat} (N : List Rl) (t : List UInt8) (q : Bool) (fv : Value) (w : World) (he : ErrOk w) (hq : ∀ x, alA N x [] t 1 = q) (h : RdFn w B U fv N) : ∃ bn bw, fv = .func (.func 55) #[] #[.pointer (some ⟨bn, 0, none⟩), .pointer (some ⟨bw, 0, none⟩)] ∧ Calls Tryz.prog 55 #[.string ⟨t.toArray⟩, .pointer (some ⟨bn, 0, none⟩), .pointer (some ⟨bw, 0, none⟩)] w (BB q w) := by
  obtain ⟨bn, bw, nv, x, rfl, h2, h3, _, h6, _, _⟩ := h
  have h6 := rlAt_owns h6
  refine ⟨bn, bw, rfl, ?_⟩
  have HA := Lib.hid (show Calls Tryz.prog 15 #[nv, .string ⟨x.toArray⟩, .string ⟨#[]⟩, .string ⟨t.toArray⟩, .int .i64 1] w (BoolPost q w) by rw [← hq x]; exact allowed_any nv N x [] t 1 w he h6)
  obtain ⟨a, c, rfl, _⟩ := h6
  obtain ⟨m, hm⟩ : ∃ m, N.length = m := ⟨_, rfl⟩
  rw [hm] at HA h2
  clear he hm hq
  go_enter Tryz.func55, Tryz.ntmps55
  go_wp2_with fail
  refine HA.out.mono ?_
  rintro e w1 ⟨rfl, hb⟩
  have HB := Lib.hid hb
  clear hb
  go_wp2
  go_ret
  exact ⟨rfl, HB.out⟩
set_option maxHeartbeats 1600000 in
set_option maxRecDepth 100000 in
theorem entry1_any {B U : Nat} (N : List Rl) (t : List UInt8) (q : Bool) (b8 : Nat) (fv : Value) (a : Option Addr) (n c : Nat) (w : World) (he : ErrOk w) (hq : ∀ x, alA N x [] t 1 = q) (h8 : w.cell? ⟨b8, 0, none⟩ = some fv) (hl8 : b8 < w.heap.size) (h : RdFn w B U fv N) : Calls Tryz.prog 42 #[.agg #[.string ⟨t.toArray⟩, .slice a n c], .pointer (some ⟨b8, 0, none⟩)] w (BB (!q) w) := by
  obtain ⟨W, hW⟩ : ∃ W, w.alloc (.cells #[.string ⟨t.toArray⟩, .slice a n c] 50) = W := ⟨_, rfl⟩
  have hb0 : Below w.heap.size w W := by rw [← hW]; exact (Below.refl _ w).alloc (Nat.le_refl _) _
  have hg : W.heap[w.heap.size]? = some (.cells #[.string ⟨t.toArray⟩, .slice a n c] 50 (0, 0)) := by rw [← hW]; exact heap_alloc_new w _
  have d0 := obj_cell hg 0 _ rfl
  have k8 := (hb0.cell (p := ⟨b8, 0, none⟩) hl8).trans h8
  obtain ⟨bn, bw, rfl, hc⟩ := reads_any N t q fv W (errOk_below he hb0) hq (rdFn_below h hb0)
  have HC := Lib.hid hc
  have HB0 := Lib.hid hb0
  clear he hq h8 h hb0 hg hc
  go_enter Tryz.func42, Tryz.ntmps42
  go_wp2_with fail
  refine HC.out.mono ?_
  rintro e w1 ⟨rfl, hb⟩
  have HB := Lib.hid (HB0.out.trans (hb.mono HB0.out.size))
  clear hb
  go_wp2
  go_ret
  exact ⟨rfl, HB.out⟩

/-! ### Seen, Old -/
set_option maxRecDepth 100000 in
theorem seen_any (v : Value) (L : List Rl) (s t : List UInt8) (w : World) (he : ErrOk w) (h : RlAt w v L) : Calls Tryz.prog 23 #[v, .string ⟨s.toArray⟩, .string ⟨t.toArray⟩] w (BoolPost (seB L s t) w) := by
  have HA := Lib.hid (allowed_any v L s t [101, 110, 116, 114, 121] 1 w he h)
  obtain ⟨a, c, rfl, _⟩ := id h
  obtain ⟨n, hn⟩ : ∃ n, L.length = n := ⟨_, rfl⟩
  unfold seB
  rw [hn] at HA ⊢
  clear h he hn
  go_enter Tryz.func23, Tryz.ntmps23
  go_wp2_with fail
  refine HA.out.mono ?_
  rintro e w1 ⟨rfl, hb⟩
  have HB := Lib.hid hb
  clear hb
  go_wp2
  go_ret
  exact boolPost_mk rfl HB.out
def oldL (q : Bool) (t : List UInt8) : List UInt8 := if q = true then t else []
set_option maxRecDepth 100000 in
theorem old_any (v : Value) (L : List Rl) (s t : List UInt8) (w : World) (he : ErrOk w) (h : RlAt w v L) : Calls Tryz.prog 25 #[v, .string ⟨s.toArray⟩, .string ⟨t.toArray⟩] w (StrPost (oldL (seB L s t) t) w) := by
  have HA := Lib.hid (seen_any v L s t w he h)
  obtain ⟨a, c, rfl, _⟩ := id h
  obtain ⟨n, hn⟩ : ∃ n, L.length = n := ⟨_, rfl⟩
  obtain ⟨q, hq⟩ : ∃ q, seB L s t = q := ⟨_, rfl⟩
  rw [hq] at HA ⊢
  rw [hn] at HA ⊢
  clear h he hn hq
  cases q
  all_goals
    go_enter Tryz.func25, Tryz.ntmps25
    go_wp2_with fail
    refine HA.out.mono ?_
    rintro e w1 ⟨rfl, hb⟩
    have HB := Lib.hid hb
    clear hb
    go_wp2
    go_ret
    exact strPost_mk rfl HB.out
end Go.Proofs.YtbihhdkmmlldnaaGreatDoor
