/- Rules gone over once, and who reads by them; whether an entry is seen. slices.DeleteFunc of attributes in a row of the call's own: those that may not be read. What somebody sees of an entry: the code's Entry. -/
import Derived.Test.YtbihhdkmmlldnaaGreatDoorAcAE
import Derived.Test.YtbihhdkmmlldnaaGreatDoorViM
import Derived.Test.YtbihhdkmmlldnaaGreatDoorSnAL
import Derived.Test.YtbihhdkmmlldnaaGreatDoorEnJN
import Derived.Test.YtbihhdkmmlldnaaGreatDoorEnHO
import Derived.Test.YtbihhdkmmlldnaaGreatDoorEnCE
import Derived.Laws.EntriesVeiled
namespace Go.Proofs.YtbihhdkmmlldnaaGreatDoor
set_option linter.unusedSimpArgs false
set_option linter.unusedVariables false
open Go Go.RowKit Go.Proofs.BerK Go.Proofs.MemK Go.Proofs.UtfK

theorem Tryz.viinfo : (Tryz.prog.info? 34).map (fun i => (i.zero, i.size, i.bytes)) = some (some (.agg #[.string ByteArray.empty, .string ByteArray.empty, .string ByteArray.empty, .int .i64 0, .bool false]), 5, 64) := by kernel_rfl
theorem ne_fn (s t : List UInt8) (r : Rl) : fnI (frA [evR r] s t [42] 1) = if neB s t r = true then 0 else -1 := by
  unfold neB
  rw [fr_one]
  split
  · simp [fnI]
  · simp [fnI]
theorem ne_step (L : List Rl) (s t : List UInt8) (k : Nat) (hk : k < L.length) : nhL (L.take (k + 1)) s t = if neB s t L[k] = true then nhL (L.take k) s t ++ [heR L[k]] else nhL (L.take k) s t := by
  unfold nhL
  rw [List.take_succ_eq_append_getElem hk, List.filter_append, List.map_append]
  split
  · rename_i h; simp [h]
  · rename_i h; simp [h]
theorem ne_len (L : List Rl) (s t : List UInt8) : (nhL L s t).length ≤ L.length := by
  unfold nhL
  rw [List.length_map]
  exact List.length_filter_le _ _
def NePost (N : List Rl) (w : World) (en : Ending) (w' : World) : Prop := ∃ v, en = .returned v ∧ w'.ownsRow w.heap.size 34 5 v N.length (rlCs N) ∧ Below w.heap.size w w'
set_option maxHeartbeats 6400000 in
set_option maxRecDepth 100000 in
theorem here_any (v : Value) (L : List Rl) (s t : List UInt8) (w : World) (he : ErrOk w) (hl : L.length ≤ 1000) (h : RlAt w v L) : Calls Tryz.prog 54 #[v, .string ⟨s.toArray⟩, .string ⟨t.toArray⟩] w (NePost (nhL L s t) w) := by
  obtain ⟨a, c, rfl, _⟩ := id h
  have HA := Lib.hid h
  have HE := Lib.hid he
  clear h he
  obtain ⟨n, hn⟩ : ∃ n, L.length = n := ⟨_, rfl⟩
  have HL := Lib.hid hn
  rw [hn] at hl ⊢
  clear hn
  go_enter Tryz.func54, Tryz.ntmps54
  go_wp2
  go_loopw [7, 13] (fun nv v wr => ∃ k : Nat, k ≤ n ∧ v = .int .i64 (k : Nat) ∧ wr.ownsRow w.heap.size 34 5 nv (nhL (L.take k) s t).length (rlCs (nhL (L.take k) s t)) ∧ Below w.heap.size w wr) (fun _ v _ => n - (intOf v).toNat)
  case atStart => exact ⟨0, by omega, rfl, World.ownsRow_nil _ _ _ _, Below.refl _ _⟩
  case round =>
    obtain ⟨k, hk, rfl, hown, hb⟩ := hrel
    obtain ⟨na, nc, hnv⟩ := ownsRow_slice hown
    by_cases hlt : k < n
    · have hkl : (k : Int) < (n : Int) := by omega
      have hkL : k < L.length := by rw [HL.out]; exact hlt
      have hA2 := rlAt_below HA.out hb
      rw [HL.out] at hA2
      obtain ⟨g, o, rfl, hg, c0, c1, c2, c3, c4⟩ := rlAt_five hA2 k hkL
      have hst := ne_step L s t k hkL
      have hlen := ne_len (L.take k) s t
      rw [List.length_take] at hlen
      obtain ⟨⟨s0, s1, s2, s3, s4⟩, hr⟩ : ∃ x, L[k] = x := ⟨_, rfl⟩
      rw [hr] at c0 c1 c2 c3 c4 hst
      dsimp only at c0 c1 c2 c3 c4
      obtain ⟨N, hN⟩ : ∃ N, nhL (L.take k) s t = N := ⟨_, rfl⟩
      rw [hN] at hown hst hnv hlen
      subst hnv
      obtain ⟨W, hW⟩ : ∃ W, (wr.alloc (.cells #[.string ⟨s0.toArray⟩, .string ⟨s1.toArray⟩, .string ⟨s2.toArray⟩, .int .i64 s3, .bool s4] 34)).setCell ⟨wr.heap.size, 2, none⟩ (.string ⟨#[42]⟩) = W := ⟨_, rfl⟩
      have hbx : W.heap[wr.heap.size]? = some (.cells #[.string ⟨s0.toArray⟩, .string ⟨s1.toArray⟩, .string ⟨#[42]⟩, .int .i64 s3, .bool s4] 34 (0, 0)) := by
        rw [← hW]
        exact obj_set (heap_alloc_new wr _) 2 _
      have hbW : Below wr.heap.size wr W := by
        rw [← hW]
        exact ((Below.refl _ wr).alloc (Nat.le_refl _) _).setCell (p := ⟨wr.heap.size, 2, none⟩) (Nat.le_refl _) _
      have d0 := obj_cell hbx 0 _ rfl
      have d1 := obj_cell hbx 1 _ rfl
      have d2 := obj_cell hbx 2 _ rfl
      have d3 := obj_cell hbx 3 _ rfl
      have d4 := obj_cell hbx 4 _ rfl
      have hz : wr.heap.size < W.heap.size := obj_lt hbx
      have hbl : Below W.heap.size W (W.alloc (.cells #[.string ⟨s0.toArray⟩, .string ⟨s1.toArray⟩, .string ⟨#[42]⟩, .int .i64 s3, .bool s4] 34)) := (Below.refl _ W).alloc (Nat.le_refl _) _
      have hbw : Below w.heap.size w W := hb.trans (hbW.mono hb.size)
      have hF : Calls Tryz.prog 13 #[.slice (some ⟨W.heap.size, 0, none⟩) 1 1, .string ⟨s.toArray⟩, .string ⟨t.toArray⟩, .string ⟨#[42]⟩, .int .i64 1] (W.alloc (.cells #[.string ⟨s0.toArray⟩, .string ⟨s1.toArray⟩, .string ⟨#[42]⟩, .int .i64 s3, .bool s4] 34)) (DepPost (fnI (frA [evR (s0, s1, s2, s3, s4)] s t [42] 1)) (W.alloc (.cells #[.string ⟨s0.toArray⟩, .string ⟨s1.toArray⟩, .string ⟨#[42]⟩, .int .i64 s3, .bool s4] 34))) :=
        afirst_any _ [evR (s0, s1, s2, s3, s4)] s t [42] 1 _ (errOk_below HE.out (hbw.trans (hbl.mono hbw.size))) (rlAt_block (L := [evR (s0, s1, s2, s3, s4)]) 1 (heap_alloc_new W _))
      rw [ne_fn] at hF
      have HX := Lib.hid (And.intro hb (And.intro hown (And.intro hbW hbx)))
      have HW := Lib.hid (And.intro hbl hbw)
      obtain ⟨q, hq⟩ : ∃ q, neB s t (s0, s1, s2, s3, s4) = q := ⟨_, rfl⟩
      rw [hq] at hF hst
      cases q with
      | false =>
        have HF := Lib.hid (show Calls Tryz.prog 13 #[.slice (some ⟨W.heap.size, 0, none⟩) 1 1, .string ⟨s.toArray⟩, .string ⟨t.toArray⟩, .string ⟨#[42]⟩, .int .i64 1] (W.alloc (.cells #[.string ⟨s0.toArray⟩, .string ⟨s1.toArray⟩, .string ⟨#[42]⟩, .int .i64 s3, .bool s4] 34)) (DepPost (-1) (W.alloc (.cells #[.string ⟨s0.toArray⟩, .string ⟨s1.toArray⟩, .string ⟨#[42]⟩, .int .i64 s3, .bool s4] 34))) from hF)
        have HS := Lib.hid (show nhL (L.take (k + 1)) s t = N from hst)
        clear hb hown hA2 hr hst hN hq hF hbx hbW hbl hbw
        go_wp2_with fail
        refine HF.out.mono ?_
        rintro e w5 ⟨rfl, hb5⟩
        have HB5 := Lib.hid (HW.out.1.trans (hb5.mono HW.out.1.size))
        clear hb5
        go_wp2
        refine ⟨⟨k + 1, by omega, by go_num, ?_, HW.out.2.trans (HB5.out.mono HW.out.2.size)⟩, by simp [intOf]; omega⟩
        rw [HS.out]
        exact ownsRow_below (ownsRow_below HX.out.2.1 HX.out.2.2.1) HB5.out
      | true =>
        have HF := Lib.hid (show Calls Tryz.prog 13 #[.slice (some ⟨W.heap.size, 0, none⟩) 1 1, .string ⟨s.toArray⟩, .string ⟨t.toArray⟩, .string ⟨#[42]⟩, .int .i64 1] (W.alloc (.cells #[.string ⟨s0.toArray⟩, .string ⟨s1.toArray⟩, .string ⟨#[42]⟩, .int .i64 s3, .bool s4] 34)) (DepPost 0 (W.alloc (.cells #[.string ⟨s0.toArray⟩, .string ⟨s1.toArray⟩, .string ⟨#[42]⟩, .int .i64 s3, .bool s4] 34))) from hF)
        have HS := Lib.hid (show nhL (L.take (k + 1)) s t = N ++ [heR (s0, s1, s2, s3, s4)] from hst)
        obtain ⟨m, hm⟩ : ∃ m, N.length = m := ⟨_, rfl⟩
        have HM := Lib.hid hm
        rw [hm] at hlen ⊢
        have hm2 : m ≤ 1000 := by omega
        clear hb hown hA2 hr hst hN hq hF hbx hbW hbl hbw hm hlen
        go_wp2_with fail
        refine HF.out.mono ?_
        rintro e w5 ⟨rfl, hb5⟩
        have HB5 := Lib.hid (HW.out.1.trans (hb5.mono HW.out.1.size))
        have k3 := (HB5.out.cell (p := ⟨wr.heap.size, 3, none⟩) hz).trans d3
        have k4 := (HB5.out.cell (p := ⟨wr.heap.size, 4, none⟩) hz).trans d4
        have hrow := ownsRow_below (ownsRow_below HX.out.2.1 HX.out.2.2.1) HB5.out
        rw [HM.out] at hrow
        have hsz5 : w.heap.size ≤ w5.heap.size := (HW.out.2.trans (HB5.out.mono HW.out.2.size)).size
        have HRow := Lib.hid hrow
        clear hb5 hrow
        go_wp2_with (at_builtin; refine wpList_pushg rfl (.tmp 26) (.tmp 33) 22 34 rfl w.heap.size 5 64 _ Tryz.viinfo Tryz.underlying22 rfl (by decide) [.string ⟨#[42]⟩, .string ⟨#[]⟩, .string ⟨s2.toArray⟩, .int .i64 s3, .bool s4] rfl (by simp [Value.oneCell']) (.slice na m nc) m (rlCs N) rfl _ rfl rfl HRow.out (by unfold maxLen; omega) (by omega) hsz5 ?_)
        intro v2 w6 hown6 hb6
        have e6 : rlCs N ++ [.string ⟨#[42]⟩, .string ⟨#[]⟩, .string ⟨s2.toArray⟩, .int .i64 s3, .bool s4] = rlCs (N ++ [heR (s0, s1, s2, s3, s4)]) := by
          rw [rlCs_app]; rfl
        rw [e6] at hown6
        have H6 := Lib.hid (And.intro hown6 ((HW.out.2.trans (HB5.out.mono HW.out.2.size)).trans hb6))
        clear hown6 hb6 e6
        go_wp2
        refine ⟨⟨k + 1, by omega, by go_num, ?_, H6.out.2⟩, by simp [intOf]; omega⟩
        rw [HS.out, List.length_append, HM.out]
        exact H6.out.1
    · obtain rfl : k = n := by omega
      have hl2 : L.take k = L := by rw [← HL.out]; exact List.take_length
      rw [hl2] at hown hnv
      subst hnv
      have H := Lib.hid (And.intro hown hb)
      clear hown hb
      go_wp2
      go_ret
      exact ⟨_, rfl, H.out.1, H.out.2⟩

/-! ### Who reads -/
/-- A call that tells whether somebody may read an attribute; what it holds lies from B on, and ahead of U. -/
def RdFn (w : World) (B U : Nat) (fv : Value) (N : List Rl) : Prop :=
  ∃ (bn bw : Nat) (nv : Value) (x : List UInt8), fv = .func (.func 55) #[] #[.pointer (some ⟨bn, 0, none⟩), .pointer (some ⟨bw, 0, none⟩)] ∧ w.cell? ⟨bn, 0, none⟩ = some nv ∧ w.cell? ⟨bw, 0, none⟩ = some (.string ⟨x.toArray⟩) ∧ (B ≤ bn ∧ bn < U ∧ B ≤ bw ∧ bw < U) ∧ w.ownsRow B 34 5 nv N.length (rlCs N) ∧ (∀ k, nv.ownBlock = some k → k < U) ∧ U ≤ w.heap.size
theorem rdFn_chg {S : Nat → Prop} {w w' : World} {B U : Nat} {fv : Value} {N : List Rl} (h : RdFn w B U fv N) (hc : Chg S w w') (hs : ∀ k, B ≤ k → k < U → ¬ S k) : RdFn w' B U fv N := by
  obtain ⟨bn, bw, nv, x, h1, h2, h3, ⟨h4, h5, h6, h7⟩, h8, h9, h10⟩ := h
  have hcell : ∀ b, B ≤ b → b < U → w'.cell? ⟨b, 0, none⟩ = w.cell? ⟨b, 0, none⟩ := fun b hb hU => by
    unfold World.cell?
    have := hc.block b (by omega) (hs b hb hU)
    simp only [this]
  refine ⟨bn, bw, nv, x, h1, (hcell bn h4 h5).trans h2, (hcell bw h6 h7).trans h3, ⟨h4, h5, h6, h7⟩, ownsRow_chg h8 hc (fun k hk => hs k (h8.lt k hk).1 (h9 k hk)), h9, ?_⟩
  have := hc.size
  omega
theorem rdFn_below {w w' : World} {B U : Nat} {fv : Value} {N : List Rl} (h : RdFn w B U fv N) (hb : Below w.heap.size w w') : RdFn w' B U fv N :=
  rdFn_chg h (Chg.ofBelow (S := fun _ => False) hb) (fun _ _ _ h => h)
def RfPost (N : List Rl) (w : World) (en : Ending) (w' : World) : Prop := ∃ bn bw, en = .returned (.func (.func 55) #[] #[.pointer (some ⟨bn, 0, none⟩), .pointer (some ⟨bw, 0, none⟩)]) ∧ RdFn w' w.heap.size w'.heap.size (.func (.func 55) #[] #[.pointer (some ⟨bn, 0, none⟩), .pointer (some ⟨bw, 0, none⟩)]) N ∧ Below w.heap.size w w'
set_option maxHeartbeats 1600000 in
set_option maxRecDepth 100000 in
theorem reader_any (v : Value) (L : List Rl) (s t : List UInt8) (w : World) (he : ErrOk w) (hl : L.length ≤ 1000) (h : RlAt w v L) : Calls Tryz.prog 39 #[v, .string ⟨s.toArray⟩, .string ⟨t.toArray⟩] w (RfPost (nhL L s t) w) := by
  obtain ⟨W, hW⟩ : ∃ W, w.alloc (.cells #[.string ⟨s.toArray⟩] 9) = W := ⟨_, rfl⟩
  have hb0 : Below w.heap.size w W := by rw [← hW]; exact (Below.refl _ w).alloc (Nat.le_refl _) _
  have hg : W.heap[w.heap.size]? = some (.cells #[.string ⟨s.toArray⟩] 9 (0, 0)) := by rw [← hW]; exact heap_alloc_new w _
  have d0 := obj_cell hg 0 _ rfl
  have hz : w.heap.size < W.heap.size := obj_lt hg
  have HH := Lib.hid (here_any v L s t W (errOk_below he hb0) hl (rlAt_below h hb0))
  obtain ⟨a, c, rfl, _⟩ := id h
  obtain ⟨n, hn⟩ : ∃ n, L.length = n := ⟨_, rfl⟩
  rw [hn] at HH ⊢
  have HB0 := Lib.hid hb0
  clear h he hl hg hb0 hn
  go_enter Tryz.func39, Tryz.ntmps39
  go_wp2_with fail
  refine HH.out.mono ?_
  rintro e w2 ⟨nv, rfl, hown, hb2⟩
  obtain ⟨na, nc, rfl⟩ := ownsRow_slice hown
  have k0 := (hb2.cell (p := ⟨w.heap.size, 0, none⟩) hz).trans d0
  have HR := Lib.hid (And.intro hown (And.intro hb2 k0))
  have HZ := Lib.hid hz
  obtain ⟨m, hm⟩ : ∃ m, (nhL L s t).length = m := ⟨_, rfl⟩
  have HM := Lib.hid hm
  rw [hm]
  clear hown hb2 hm
  go_wp2
  go_ret
  have hb3 : Below w2.heap.size w2 (w2.alloc (.cells #[.slice na m nc] 22)) := (Below.refl _ w2).alloc (Nat.le_refl _) _
  have hs2 := HR.out.2.1.size
  have hzz := HZ.out
  have hs0 := HB0.out.size
  have hsz : (w2.alloc (.cells #[.slice na m nc] 22)).heap.size = w2.heap.size + 1 := by simp
  have hrow := HR.out.1
  refine ⟨w2.heap.size, w.heap.size, rfl, ⟨w2.heap.size, w.heap.size, .slice na m nc, s, rfl, obj_cell (heap_alloc_new w2 _) 0 _ rfl, (hb3.cell (p := ⟨w.heap.size, 0, none⟩) (by show w.heap.size < w2.heap.size; omega)).trans HR.out.2.2, ⟨by omega, by omega, by omega, by omega⟩, ?_, fun k hk => ?_, Nat.le_refl _⟩, ?_⟩
  · have := ownsRow_below (ownsRow_base hrow hs0) hb3
    rw [HM.out] at this
    rw [HM.out]
    exact this
  · rw [HM.out] at hrow
    have := (hrow.lt k hk).2
    omega
  · exact (HB0.out.trans (HR.out.2.1.mono HB0.out.size)).alloc (by omega) _
set_option maxHeartbeats 1600000 in
set_option maxRecDepth 100000 in
theorem reads_any {B U : Nat} (N : List Rl) (t : List UInt8) (q : Bool) (fv : Value) (w : World) (he : ErrOk w) (hq : ∀ x, alA N x [] t 1 = q) (h : RdFn w B U fv N) : ∃ bn bw, fv = .func (.func 55) #[] #[.pointer (some ⟨bn, 0, none⟩), .pointer (some ⟨bw, 0, none⟩)] ∧ Calls Tryz.prog 55 #[.string ⟨t.toArray⟩, .pointer (some ⟨bn, 0, none⟩), .pointer (some ⟨bw, 0, none⟩)] w (BB q w) := by
  obtain ⟨bn, bw, nv, x, rfl, h2, h3, _, h6, _, _⟩ := h
  have h6 := rlAt_owns h6
  refine ⟨bn, bw, rfl, ?_⟩
  have HA := Lib.hid (show Calls Tryz.prog 15 #[nv, .string ⟨x.toArray⟩, .string ⟨#[]⟩, .string ⟨t.toArray⟩, .int .i64 1] w (BoolPost q w) by rw [← hq x]; exact allowed_any nv N x [] t 1 w he h6)
  obtain ⟨a, c, rfl, _⟩ := h6
  obtain ⟨m, hm⟩ : ∃ m, N.length = m := ⟨_, rfl⟩
  rw [hm] at HA h2
  clear he hm hq
  go_enter Tryz.func55, Tryz.ntmps55
  go_wp2_with fail
  refine HA.out.mono ?_
  rintro e w1 ⟨rfl, hb⟩
  have HB := Lib.hid hb
  clear hb
  go_wp2
  go_ret
  exact ⟨rfl, HB.out⟩
set_option maxHeartbeats 1600000 in
set_option maxRecDepth 100000 in
theorem entry1_any {B U : Nat} (N : List Rl) (t : List UInt8) (q : Bool) (b8 : Nat) (fv : Value) (a : Option Addr) (n c : Nat) (w : World) (he : ErrOk w) (hq : ∀ x, alA N x [] t 1 = q) (h8 : w.cell? ⟨b8, 0, none⟩ = some fv) (hl8 : b8 < w.heap.size) (h : RdFn w B U fv N) : Calls Tryz.prog 42 #[.agg #[.string ⟨t.toArray⟩, .slice a n c], .pointer (some ⟨b8, 0, none⟩)] w (BB (!q) w) := by
  obtain ⟨W, hW⟩ : ∃ W, w.alloc (.cells #[.string ⟨t.toArray⟩, .slice a n c] 50) = W := ⟨_, rfl⟩
  have hb0 : Below w.heap.size w W := by rw [← hW]; exact (Below.refl _ w).alloc (Nat.le_refl _) _
  have hg : W.heap[w.heap.size]? = some (.cells #[.string ⟨t.toArray⟩, .slice a n c] 50 (0, 0)) := by rw [← hW]; exact heap_alloc_new w _
  have d0 := obj_cell hg 0 _ rfl
  have k8 := (hb0.cell (p := ⟨b8, 0, none⟩) hl8).trans h8
  obtain ⟨bn, bw, rfl, hc⟩ := reads_any N t q fv W (errOk_below he hb0) hq (rdFn_below h hb0)
  have HC := Lib.hid hc
  have HB0 := Lib.hid hb0
  clear he hq h8 h hb0 hg hc
  go_enter Tryz.func42, Tryz.ntmps42
  go_wp2_with fail
  refine HC.out.mono ?_
  rintro e w1 ⟨rfl, hb⟩
  have HB := Lib.hid (HB0.out.trans (hb.mono HB0.out.size))
  clear hb
  go_wp2
  go_ret
  exact ⟨rfl, HB.out⟩

/-! ### Seen, Old -/
set_option maxRecDepth 100000 in
theorem seen_any (v : Value) (L : List Rl) (s t : List UInt8) (w : World) (he : ErrOk w) (h : RlAt w v L) : Calls Tryz.prog 23 #[v, .string ⟨s.toArray⟩, .string ⟨t.toArray⟩] w (BoolPost (seB L s t) w) := by
  have HA := Lib.hid (allowed_any v L s t [101, 110, 116, 114, 121] 1 w he h)
  obtain ⟨a, c, rfl, _⟩ := id h
  obtain ⟨n, hn⟩ : ∃ n, L.length = n := ⟨_, rfl⟩
  unfold seB
  rw [hn] at HA ⊢
  clear h he hn
  go_enter Tryz.func23, Tryz.ntmps23
  go_wp2_with fail
  refine HA.out.mono ?_
  rintro e w1 ⟨rfl, hb⟩
  have HB := Lib.hid hb
  clear hb
  go_wp2
  go_ret
  exact boolPost_mk rfl HB.out
def oldL (q : Bool) (t : List UInt8) : List UInt8 := if q = true then t else []
set_option maxRecDepth 100000 in
theorem old_any (v : Value) (L : List Rl) (s t : List UInt8) (w : World) (he : ErrOk w) (h : RlAt w v L) : Calls Tryz.prog 25 #[v, .string ⟨s.toArray⟩, .string ⟨t.toArray⟩] w (StrPost (oldL (seB L s t) t) w) := by
  have HA := Lib.hid (seen_any v L s t w he h)
  obtain ⟨a, c, rfl, _⟩ := id h
  obtain ⟨n, hn⟩ : ∃ n, L.length = n := ⟨_, rfl⟩
  obtain ⟨q, hq⟩ : ∃ q, seB L s t = q := ⟨_, rfl⟩
  rw [hq] at HA ⊢
  rw [hn] at HA ⊢
  clear h he hn hq
  cases q
  all_goals
    go_enter Tryz.func25, Tryz.ntmps25
    go_wp2_with fail
    refine HA.out.mono ?_
    rintro e w1 ⟨rfl, hb⟩
    have HB := Lib.hid hb
    clear hb
    go_wp2
    go_ret
    exact strPost_mk rfl HB.out
end Go.Proofs.YtbihhdkmmlldnaaGreatDoor
namespace Go.Proofs.YtbihhdkmmlldnaaGreatDoor
set_option linter.unusedSimpArgs false
set_option linter.unusedVariables false
open Go Go.RowKit Go.Proofs.BerK Go.Proofs.MemK Go.Proofs.UtfK
theorem ixnilE (p : List UInt8 → Bool) (cap : Value) (w : World) : Calls Tryz.prog 57 #[.slice none 0 0, .func (.func 42) #[] #[cap]] w (fun en w' => en = .returned (.int .i64 (-1)) ∧ w = w') := by
  go_enter Tryz.func57, Tryz.ntmps57
  go_wp2
  go_loop [8] (fun v => v = .int .i64 (0 : Nat)) (fun v => 0)
  case atStart => rfl
  case round =>
    obtain rfl := hrel
    go_wp2
    go_ret
    exact ⟨rfl, rfl⟩
def ClE (p : List UInt8 → Bool) (ov cap : Value) (w : World) : Prop := ∀ (W : World) (t : List UInt8) (a : Option Addr) (n c : Nat), t.length ≤ 140737488355328 → Chg (fun k => some k = ov.ownBlock) w W → Calls Tryz.prog 42 #[.agg #[.string ⟨t.toArray⟩, .slice a n c], cap] W (BB (p t) W)
set_option maxHeartbeats 1600000 in
set_option maxRecDepth 100000 in
theorem ixdelE_any (p : List UInt8 → Bool) (Lq : List (List UInt8 × Value)) (B g c : Nat) (w : World) (cap : Value) (hr : w.ownsRow B 50 2 (.slice (some ⟨g, 0, none⟩) Lq.length c) Lq.length (atcs Lq)) (hs : ∀ q ∈ Lq, q.1.length ≤ 140737488355328 ∧ ∃ a n c, q.2 = .slice a n c) (hcl : ClE p (.slice (some ⟨g, 0, none⟩) Lq.length c) cap w) (hl : Lq.length ≤ 1000000) :
    Calls Tryz.prog 57 #[.slice (some ⟨g, 0, none⟩) Lq.length c, .func (.func 42) #[] #[cap]] w (IxDel p Lq w) := by
  have HC := Lib.hid (fun (W : World) (hb : Below w.heap.size w W) t a n c' hql => hcl W t a n c' hql (Chg.ofBelow hb))
  have HR := Lib.hid hr
  have HS := Lib.hid hs
  have hgl := (hr.lt g rfl).2
  obtain ⟨n, hn⟩ : ∃ n, Lq.length = n := ⟨_, rfl⟩
  have HL := Lib.hid hn
  rw [hn] at hl ⊢
  clear hr hs hcl hn
  go_enter Tryz.func57, Tryz.ntmps57
  go_wp2
  go_loopw [8] (fun v wr => ∃ k : Nat, k ≤ n ∧ v = .int .i64 (k : Nat) ∧ Below w.heap.size w wr ∧ ∀ q ∈ Lq.take k, p q.1 = false) (fun v _ => n - (intOf v).toNat)
  case atStart => exact ⟨0, by omega, rfl, Below.refl _ _, fun q hq => by simp at hq⟩
  case round =>
    obtain ⟨k, hk, rfl, hb, hall⟩ := hrel
    by_cases hlt : k < n
    · have hkl : (k : Int) < (n : Int) := by omega
      have hkm : k < Lq.length := by rw [HL.out]; exact hlt
      obtain ⟨h1, h2⟩ := atcs_at Lq k hkm
      have c0 := (hb.cell (p := ⟨g, k * 2, none⟩) hgl).trans ((HR.out.cellAt _ (by omega)).trans h1)
      have c1 := (hb.cell (p := ⟨g, k * 2 + 1, none⟩) hgl).trans ((HR.out.cellAt _ (by omega)).trans h2)
      obtain ⟨hql, qa, qn, qc, hq⟩ := HS.out _ (List.getElem_mem hkm)
      rw [hq] at c1
      obtain ⟨t, ht⟩ : ∃ x, Lq[k].1 = x := ⟨_, rfl⟩
      rw [ht] at c0 hql
      have HCk := Lib.hid (HC.out wr hb t qa qn qc hql)
      cases hp : p t with
      | true =>
        rw [hp] at HCk
        have H := Lib.hid (And.intro hb (And.intro hall (show p Lq[k].1 = true by rw [ht]; exact hp)))
        clear hb hall h1 h2 hq ht hp
        go_wp2_with fail
        refine HCk.out.mono ?_
        rintro e w5 ⟨rfl, hb5⟩
        have H5 := Lib.hid hb5
        clear hb5 c0 c1
        go_wp2
        go_ret
        exact ⟨.inr ⟨k, rfl, hkm, H.out.2.2, H.out.2.1⟩, H.out.1.trans (H5.out.mono H.out.1.size)⟩
      | false =>
        rw [hp] at HCk
        have H := Lib.hid (And.intro hb (show ∀ q ∈ Lq.take (k + 1), p q.1 = false from mem_take_snoc hkm hall (by rw [ht]; exact hp)))
        clear hb hall h1 h2 hq ht hp
        go_wp2_with fail
        refine HCk.out.mono ?_
        rintro e w5 ⟨rfl, hb5⟩
        have H5 := Lib.hid hb5
        clear hb5 c0 c1
        go_wp2
        exact ⟨⟨k + 1, by omega, by go_num, H.out.1.trans (H5.out.mono H.out.1.size), H.out.2⟩, by simp [intOf]; omega⟩
    · obtain rfl : k = n := by omega
      have H := Lib.hid (And.intro hb (show ∀ q ∈ Lq, p q.1 = false by rw [← HL.out, List.take_length] at hall; exact hall))
      clear hb hall
      go_wp2
      go_ret
      exact ⟨.inl ⟨rfl, H.out.2⟩, H.out.1⟩
set_option maxHeartbeats 3200000 in
set_option maxRecDepth 100000 in
theorem delE_some (p : List UInt8 → Bool) (Lq : List (List UInt8 × Value)) (B g c : Nat) (w : World) (cap : Value) (hr : w.ownsRow B 50 2 (.slice (some ⟨g, 0, none⟩) Lq.length c) Lq.length (atcs Lq)) (hs : ∀ q ∈ Lq, q.1.length ≤ 140737488355328 ∧ ∃ a n c, q.2 = .slice a n c) (hcl : ClE p (.slice (some ⟨g, 0, none⟩) Lq.length c) cap w) (hl : Lq.length ≤ 1000000) :
    Calls Tryz.prog 41 #[.slice (some ⟨g, 0, none⟩) Lq.length c, .func (.func 42) #[] #[cap]] w (DelPost p Lq B (.slice (some ⟨g, 0, none⟩) Lq.length c) w) := by
  have HX := Lib.hid (ixdelE_any p Lq B g c w cap hr hs hcl hl)
  have HC := Lib.hid hcl
  have HR := Lib.hid hr
  have HS := Lib.hid hs
  have hgl := (hr.lt g rfl).2
  have hnc : Lq.length ≤ c ∧ c ≤ maxLen := by
    rcases hr.2 with ⟨h', _⟩ | ⟨g', cap', cur, h', hB, hg, hnc, hcm, hcs, ht⟩
    · cases h'
    · simp only [Value.slice.injEq, Option.some.injEq, Addr.mk.injEq, and_true, true_and] at h'
      obtain ⟨rfl, rfl⟩ := h'
      exact ⟨hnc, hcm⟩
  obtain ⟨hnc1, hnc2⟩ := hnc
  obtain ⟨n, hn⟩ : ∃ n, Lq.length = n := ⟨_, rfl⟩
  have HL := Lib.hid hn
  rw [hn] at hl HX hnc1 ⊢
  clear hr hs hcl hn
  go_enter Tryz.func41, Tryz.ntmps41
  go_wp2_with fail
  refine HX.out.mono ?_
  rintro e w1 ⟨hx, hb1⟩
  have HB1 := Lib.hid hb1
  clear hb1
  rcases hx with ⟨rfl, hno⟩ | ⟨i0, rfl, hi0, hp0, ha0⟩
  · have H := Lib.hid hno
    clear hno
    go_wp2
    go_ret
    refine ⟨_, rfl, ?_, Chg.ofBelow HB1.out⟩
    have e : (Lq.filter fun q => !p q.1) = Lq := List.filter_eq_self.2 fun q hq => by simp [H.out q hq]
    rw [e, HL.out]
    have := ownsRow_below HR.out HB1.out
    rw [HL.out] at this
    exact this
  · have hi0n : i0 < n := by rw [← HL.out]; exact hi0
    have hi0l : (i0 : Int) ≠ -1 := by omega
    have HD0 := Lib.hid (delAt_start hi0 hp0 ha0)
    have hz : ((i0 : Int) == -1) = false := by rw [beq_eq_false_iff_ne]; omega
    clear hp0 ha0
    go_wp2
    go_loopw [5, 6] (fun v5 v6 wr => ∃ (i j : Nat) (R : List (List UInt8 × Value)), j ≤ n ∧ v5 = .int .i64 (i : Nat) ∧ v6 = .int .i64 (j : Nat) ∧ i < j ∧ DelAt p Lq R i j ∧ wr.ownsRow B 50 2 (.slice (some ⟨g, 0, none⟩) n c) n (atcs R) ∧ Chg (fun k => some k = (Value.slice (some ⟨g, 0, none⟩) n c).ownBlock) w wr) (fun _ v _ => n - (intOf v).toNat)
    case atStart => exact ⟨i0, i0 + 1, Lq, by omega, rfl, by go_num, by omega, HD0.out, by have := ownsRow_below HR.out HB1.out; rw [HL.out] at this; exact this, Chg.ofBelow HB1.out⟩
    case round =>
      clear HX HD0 hz hi0l
      obtain ⟨i, j, R, hj, rfl, rfl, hij, hD, hrow, hch⟩ := hrel
      by_cases hlt : j < n
      · have hjl : (j : Int) < (n : Int) := by omega
        have hil : (i : Int) < (n : Int) := by omega
        have hjm : j < Lq.length := by rw [HL.out]; exact hlt
        obtain ⟨hjR, ejR⟩ := delAt_at hD hjm
        obtain ⟨h1, h2⟩ := atcs_at R j hjR
        rw [ejR] at h1 h2
        have c0 := (hrow.cellAt (j * 2) (by omega)).trans h1
        have c1 := (hrow.cellAt (j * 2 + 1) (by omega)).trans h2
        obtain ⟨hql, qa, qn, qc, hq⟩ := HS.out _ (List.getElem_mem hjm)
        have hDs := delAt_skip hD hjm
        have hDk := delAt_keep hD hjm
        obtain ⟨q, hqe⟩ : ∃ x, Lq[j] = x := ⟨_, rfl⟩
        rw [hqe] at hq hql c0 c1 hDs hDk
        obtain ⟨t, qv⟩ := q
        simp only [] at hq hql c0 c1 hDs hDk
        subst hq
        have hgr := (hrow.lt g rfl).2
        obtain ⟨W2, hW2⟩ : ∃ W2, wr.alloc (.cells #[.string ⟨t.toArray⟩, .slice qa qn qc] 50) = W2 := ⟨_, rfl⟩
        have hb2 : Below wr.heap.size wr W2 := by rw [← hW2]; exact (Below.refl _ wr).alloc (Nat.le_refl _) _
        have y2 : W2.heap[wr.heap.size]? = some (.cells #[.string ⟨t.toArray⟩, .slice qa qn qc] 50 (0, 0)) := by rw [← hW2]; exact heap_alloc_new wr _
        have hch2 := hch.below (hb2.mono hch.size)
        have HCk := Lib.hid (HC.out W2 t qa qn qc hql (by rw [HL.out]; exact hch2.mono (fun _ _ h => h)))
        have HW2 := Lib.hid hW2
        obtain ⟨i0', i1'⟩ := obj2s y2
        rw [← hW2] at i0' i1'
        cases hp : p t with
        | true =>
          rw [hp] at HCk
          have H := Lib.hid (And.intro hrow (And.intro hch (And.intro hb2 (hDs hp))))
          clear hrow hch hb2 hDs hDk hD h1 h2 hqe hch2 y2 hW2 ejR hp
          go_wp2_with fail
          rw [HW2.out]
          refine HCk.out.mono ?_
          rintro e w5 ⟨rfl, hb5⟩
          have H5 := Lib.hid (H.out.2.2.1.trans (hb5.mono H.out.2.2.1.size))
          clear hb5 c0 c1 i0' i1'
          go_wp2
          exact ⟨⟨i, j + 1, R, by omega, rfl, by go_num, by omega, H.out.2.2.2, ownsRow_below H.out.1 H5.out, H.out.2.1.below (H5.out.mono H.out.2.1.size)⟩, by simp [intOf]; omega⟩
        | false =>
          rw [hp] at HCk
          have H := Lib.hid (And.intro hrow (And.intro hch (And.intro hb2 (And.intro (hDk hp) (And.intro hD y2)))))
          clear hrow hch hb2 hDs hDk hD h1 h2 hqe hch2 hW2 ejR hp y2
          go_wp2_with fail
          rw [HW2.out]
          refine HCk.out.mono ?_
          rintro e w5 ⟨rfl, hb5⟩
          clear c0 c1 i0' i1'
          have hb6 := H.out.2.2.1.trans (hb5.mono H.out.2.2.1.size)
          have hr5 := ownsRow_below H.out.1 hb6
          have y5 := obj_below H.out.2.2.2.2.2 hb5 (obj_lt H.out.2.2.2.2.2)
          obtain ⟨j0, j1⟩ := obj2s y5
          have hiR : i < R.length := by rw [H.out.2.2.2.2.1.1, HL.out]; omega
          obtain ⟨r1, r2⟩ := atcs_at R i hiR
          have s0 := (hr5.cellAt (i * 2) (by omega)).trans r1
          have s1 := (hr5.cellAt (i * 2 + 1) (by omega)).trans r2
          have f0 := hr5.frozenAt (i * 2)
          have f1 := hr5.frozenAt (i * 2 + 1)
          have hst := own_stored (own_stored hr5 (i * 2) (.string ⟨t.toArray⟩)) (i * 2 + 1) (.slice qa qn qc)
          rw [show (Value.slice qa qn qc) = (t, Value.slice qa qn qc).2 from rfl, show (Value.string ⟨t.toArray⟩) = .string ⟨(t, Value.slice qa qn qc).1.toArray⟩ from rfl, atcs_set2 R i hiR] at hst
          have hc5 := H.out.2.1.below (hb6.mono H.out.2.1.size)
          have hc6 : Chg (fun k => some k = (Value.slice (some ⟨g, 0, none⟩) n c).ownBlock) w ((w5.setCell ⟨g, i * 2, none⟩ (.string ⟨t.toArray⟩)).setCell ⟨g, i * 2 + 1, none⟩ (.slice qa qn qc)) := (hc5.setCell (p := ⟨g, i * 2, none⟩) (fun _ => rfl) _).setCell (p := ⟨g, i * 2 + 1, none⟩) (fun _ => rfl) _
          have H5 := Lib.hid (And.intro hst hc6)
          clear hb5 hb6 hr5 y5 r1 r2 hst hc5 hc6
          go_wp2
          exact ⟨⟨i + 1, j + 1, R.set i (t, .slice qa qn qc), by omega, by go_num, by go_num, by omega, H.out.2.2.2.1, H5.out.1, H5.out.2⟩, by simp [intOf]; omega⟩
      · obtain rfl : j = n := by omega
        have hD2 : DelAt p Lq R i Lq.length := by rw [HL.out]; exact hD
        obtain ⟨e1, e2, e3⟩ := delAt_end hD2
        have hRl : R.length = j := by rw [hD.1, HL.out]
        have hij2 : (i : Int) ≤ (j : Int) := by omega
        have hjc : (j : Int) ≤ (c : Int) := by omega
        have hic : (i : Int) ≤ (c : Int) := by omega
        have hclr : ∀ ty, (Builtin.clear_ #[38] ty #[.slice (some ⟨g, i * 2, none⟩) (j - i) (c - i)]).run Tryz.prog wr = .ok (.tuple #[]) (wr.setCells g (i * 2) (zeroAt (j - i))) := fun ty => by
          refine run_clear_k wr _ 50 ty (.agg #[.string ByteArray.empty, .slice none 0 0]) Tryz.underlying38 Tryz.zeroValue50 (fun _ _ => trivial) g (i * 2) (j - i) (c - i) ((j - i) * 2) (by omega) (zeroAt (j - i)) rfl (zeroAt_len _) (zeroAt_one _) (fun q hq => ?_) (fun q hq => hrow.frozenAt _)
          rw [hrow.cellAt _ (by omega), List.getElem?_eq_getElem (by rw [atcs_len]; omega)]
          rfl
        have hpre := own_prefix hrow i (by omega)
        rw [← atcs_take, e1] at hpre
        obtain ⟨k1, k2⟩ := own_setCells (zeroAt (j - i)) wr (i * 2) hpre (Nat.le_refl _)
        have H := Lib.hid (And.intro k1 (And.intro (hch.trans (k2.mono (fun k _ h => (by show some k = some g; rw [h]))) (fun _ _ h => h)) e2))
        clear hpre k1 k2 hrow hch hD hD2 e1 e2 e3
        go_wp2
        go_ret
        refine ⟨_, rfl, ?_, H.out.2.1⟩
        rw [← H.out.2.2]
        exact H.out.1
theorem delE_any (p : List UInt8 → Bool) (Lq : List (List UInt8 × Value)) (n B : Nat) (ov : Value) (w : World) (cap : Value) (hr : w.ownsRow B 50 2 ov n (atcs Lq)) (hs : ∀ q ∈ Lq, q.1.length ≤ 140737488355328 ∧ ∃ a n c, q.2 = .slice a n c) (hcl : ClE p ov cap w) (hl : n ≤ 1000000) :
    Calls Tryz.prog 41 #[ov, .func (.func 42) #[] #[cap]] w (DelPost p Lq B ov w) := by
  have hn : Lq.length = n := by have := hr.1; rw [atcs_len] at this; omega
  subst hn
  rcases hr.2 with ⟨rfl, h0⟩ | ⟨g, c, cur, rfl, _⟩
  · have e : Lq = [] := List.eq_nil_of_length_eq_zero h0
    subst e
    have HX := Lib.hid (ixnilE p cap w)
    clear hr hs hcl hl h0
    go_enter Tryz.func41, Tryz.ntmps41
    go_wp2_with fail
    refine HX.out.mono ?_
    rintro e w1 ⟨rfl, hw⟩
    obtain rfl := hw.symm
    go_wp2
    go_ret
    exact ⟨_, rfl, World.ownsRow_nil _ _ _ _, Chg.refl _ _⟩
  · exact delE_some p Lq B g c w cap hr hs hcl hl
end Go.Proofs.YtbihhdkmmlldnaaGreatDoor
namespace Go.Proofs.YtbihhdkmmlldnaaGreatDoor
set_option linter.unusedSimpArgs false
set_option linter.unusedVariables false
open Go Go.RowKit Go.Proofs.BerK Go.Proofs.MemK Go.Proofs.UtfK
theorem own_set1 {w : World} {B s n rb i : Nat} {e t : TypeId} {v : Value} {xs : List Value} {cs : Array Value} (h : w.ownsRow B e s v n xs) (hx : w.heap[rb]? = some (.cells cs t (0, 0))) (hne : e ≠ t) (x : Value) : (w.setCell ⟨rb, i, none⟩ x).ownsRow B e s v n xs := by
  refine ownsRow_chg (S := fun k => k = rb) h ((Chg.refl (fun k => k = rb) w).setCell (p := ⟨rb, i, none⟩) (fun _ => rfl) x) (fun k hk e2 => ?_)
  have e2 : k = rb := e2
  subst e2
  rcases h.2 with ⟨rfl, _⟩ | ⟨g, cap, cur, rfl, _, hg, _⟩
  · cases hk
  · have e1 : g = k := by injection hk
    subst e1
    rw [hg] at hx
    injection hx with hx
    injection hx with _ hx
    exact hne hx
theorem atOk_set1 {w : World} {rb i : Nat} {Lq : List (List UInt8 × Value)} {L : List Atr} {t : TypeId} {cs : Array Value} (h : AtOk w Lq L) (hx : w.heap[rb]? = some (.cells cs t (0, 0))) (h2 : 9 ≠ t) (x : Value) : AtOk (w.setCell ⟨rb, i, none⟩ x) Lq L :=
  ⟨h.1, fun j i1 i2 => ⟨(h.2 j i1 i2).1, by obtain ⟨_, B2, hB⟩ := h.2 j i1 i2; exact ⟨B2, own_set1 hB hx h2 x⟩⟩⟩
theorem set1_e {w : World} {g : Nat} {a b : Value} {t : TypeId} (h : w.heap[g]? = some (.cells #[a, b] t (0, 0))) (d : Value) : (w.setCell ⟨g, 1, none⟩ d).heap[g]? = some (.cells #[a, d] t (0, 0)) := by simpa using obj_set h 1 d
theorem obj1s {w : World} {g : Nat} {a : Value} {t : TypeId} (h : w.heap[g]? = some (.cells #[a] t (0, 0))) : w.cell? ⟨g, 0, none⟩ = some a := obj_cell h 0 _ rfl
theorem chg_cell {S : Nat → Prop} {w w' : World} (h : Chg S w w') {g : Nat} (hg : g < w.heap.size) (hS : ¬ S g) (i : Nat) : w'.cell? ⟨g, i, none⟩ = w.cell? ⟨g, i, none⟩ := by
  unfold World.cell?
  have := h.block g hg hS
  simp only [this]

/-- The two boxes of an entry made clean, and of the result. -/
def VwSt (w0 : World) (dn : List UInt8) (L : List Atr) (v : Value) (Lq : List (List UInt8 × Value)) (B : Nat) (W : World) : Prop :=
  W.heap[w0.heap.size]? = some (.cells #[.string ⟨dn.toArray⟩, v] 40 (0, 0)) ∧ W.heap[w0.heap.size + 1]? = some (.cells #[.string ⟨#[]⟩, .slice none 0 0] 40 (0, 0)) ∧ AtOk W Lq L ∧ W.ownsRow B 50 2 v L.length (atcs Lq) ∧ w0.heap.size + 2 ≤ B ∧ Below w0.heap.size w0 W
theorem vwSt_end {w0 W : World} {B : Nat} {dn : List UInt8} {L : List Atr} {v : Value} {Lq : List (List UInt8 × Value)} (h : VwSt w0 dn L v Lq B W) : PaAt ((W.setCell ⟨w0.heap.size + 1, 0, none⟩ (.string ⟨dn.toArray⟩)).setCell ⟨w0.heap.size + 1, 1, none⟩ v) v L ∧ Below w0.heap.size w0 ((W.setCell ⟨w0.heap.size + 1, 0, none⟩ (.string ⟨dn.toArray⟩)).setCell ⟨w0.heap.size + 1, 1, none⟩ v) := by
  obtain ⟨h1, h2, h3, h4, h5, h6⟩ := h
  exact ⟨⟨Lq, B, atOk_set2 h3 h2 (by decide) _ _, own_set2 h4 h2 (by decide) _ _⟩, below_e2 h6 (by omega) _ _⟩
theorem vwSt_del {w0 W W' : World} {B : Nat} {dn : List UInt8} {L : List Atr} {v v' : Value} {Lq : List (List UInt8 × Value)} (h : VwSt w0 dn L v Lq B W) (p : List UInt8 → Bool) (hr : W'.ownsRow B 50 2 v' (Lq.filter fun q => !p q.1).length (atcs (Lq.filter fun q => !p q.1))) (hc : Chg (fun k => some k = v.ownBlock) W W') :
    VwSt w0 dn (L.filter fun q => !p q.1) v' (Lq.filter fun q => !p q.1) B (W'.setCell ⟨w0.heap.size, 1, none⟩ v') := by
  obtain ⟨h1, h2, h3, h4, h5, h6⟩ := h
  have hB : ∀ k, some k = v.ownBlock → w0.heap.size + 2 ≤ k := fun k hk => Nat.le_trans h5 (h4.lt k hk.symm).1
  have y1 := obj_chg h1 hc (fun e => by have := hB _ e; omega)
  have y2 := obj_chg h2 hc (fun e => by have := hB _ e; omega)
  have ok := atOk_filter (atOk_chg h3 h4 hc) p
  have hl := ok.1
  rw [hl] at hr
  exact ⟨set1_e y1 _, obj_set_other y2 (by show _ ≠ w0.heap.size; omega) _, atOk_set1 ok y1 (by decide) _, own_set1 hr y1 (by decide) _, h5, (h6.trans (hc.toBelow h6.size (fun k _ hk => by have := hB k hk; omega))).setCell (p := ⟨w0.heap.size, 1, none⟩) (Nat.le_refl _) _⟩
/-- What is told of an entry: as much as is seen, or nothing. -/
def VePost (q : Bool) (dn : List UInt8) (L : List Atr) (w : World) (en : Ending) (w' : World) : Prop :=
  ((q = false ∧ en = .returned (.tuple #[.agg #[.string ⟨#[]⟩, .slice none 0 0], .bool false])) ∨ (q = true ∧ ∃ a c, en = .returned (.tuple #[.agg #[.string ⟨dn.toArray⟩, .slice a L.length c], .bool true]) ∧ PaAt w' (.slice a L.length c) L)) ∧ Below w.heap.size w w'
set_option maxHeartbeats 3200000 in
set_option maxRecDepth 100000 in
theorem ventry_no (A : List Atr) (L : List Rl) (dn s : List UInt8) (lv av : Value) (w : World) (he : ErrOk w) (hL : RlAt w lv L) (h : EaAt w av A) (hq : seB L s dn = false) :
    Calls Tryz.prog 20 #[lv, .string ⟨s.toArray⟩, .agg #[.string ⟨dn.toArray⟩, av]] w (VePost false dn (vwA L s dn A) w) := by
  obtain ⟨a, c, rfl⟩ := eaAt_slice h
  obtain ⟨W1, hW1⟩ : ∃ W1, (w.alloc (.cells #[.string ⟨dn.toArray⟩, .slice a A.length c] 40)).alloc (.cells #[.string ⟨#[]⟩, .slice none 0 0] 40) = W1 := ⟨_, rfl⟩
  obtain ⟨x0, x1, hb1, hz1⟩ := boxes10 hW1
  have HS := Lib.hid (seen_any lv L s dn W1 (errOk_below he hb1) (rlAt_below hL hb1))
  rw [hq] at HS
  obtain ⟨la, lc, rfl, _⟩ := id hL
  have HW1 := Lib.hid hW1
  obtain ⟨n, hn⟩ : ∃ n, A.length = n := ⟨_, rfl⟩
  rw [hn] at HW1 x0 ⊢
  obtain ⟨ln, hln⟩ : ∃ n, L.length = n := ⟨_, rfl⟩
  rw [hln] at HS ⊢
  have HX := Lib.hid (And.intro x0 (And.intro x1 (And.intro hb1 hz1)))
  obtain ⟨e0, e1⟩ := obj2s x0
  rw [← hW1] at e0 e1
  clear he hL h hq x0 x1 hb1 hz1 hn hln hW1
  go_enter Tryz.func20, Tryz.ntmps20
  go_wp2_with fail
  rw [HW1.out]
  refine HS.out.mono ?_
  rintro e w2 ⟨rfl, hb2⟩
  clear e0 e1
  have y2 := obj_below HX.out.2.1 hb2 (by have := HX.out.2.2.2; omega)
  have HY := Lib.hid (And.intro y2 (HX.out.2.2.1.trans (hb2.mono HX.out.2.2.1.size)))
  obtain ⟨r0, r1⟩ := obj2s y2
  have f0 := obj_free y2 0
  have f1 := obj_free y2 1
  clear hb2 y2
  go_wp2
  obtain ⟨j0, j1⟩ := obj2s (set2_e HY.out.1 (.string ⟨#[]⟩) (.slice none 0 0))
  refine bodyPost_ret (v := .tuple #[.agg #[.string ⟨#[]⟩, .slice none 0 0], .bool false]) (by simp [results, Tryz.results20, go_sem, *]) rfl ?_
  exact ⟨.inl ⟨rfl, rfl⟩, below_e2 HY.out.2 (by omega) _ _⟩
set_option maxHeartbeats 6400000 in
set_option maxRecDepth 100000 in
theorem ventry_yes (A : List Atr) (L : List Rl) (dn s : List UInt8) (lv av : Value) (w : World) (he : ErrOk w) (hL : RlAt w lv L) (h : EaAt w av A) (hf : FewE A) (hq : seB L s dn = true) :
    Calls Tryz.prog 20 #[lv, .string ⟨s.toArray⟩, .agg #[.string ⟨dn.toArray⟩, av]] w (VePost true dn (vwA L s dn A) w) := by
  have hck : ckA L = 0 := al_ck hq
  have hll : L.length ≤ 1000 := by have := (ck_all hck).1; omega
  obtain ⟨a, c, rfl⟩ := eaAt_slice h
  obtain ⟨W1, hW1⟩ : ∃ W1, (w.alloc (.cells #[.string ⟨dn.toArray⟩, .slice a A.length c] 40)).alloc (.cells #[.string ⟨#[]⟩, .slice none 0 0] 40) = W1 := ⟨_, rfl⟩
  obtain ⟨x0, x1, hb1, hz1⟩ := boxes10 hW1
  have HE := Lib.hid (fun w' (hb : Below W1.heap.size W1 w') => errOk_below (errOk_below he hb1) hb)
  have HE0 := Lib.hid (fun w' (hb : Below w.heap.size w w') => errOk_below he hb)
  have HS := Lib.hid (seen_any lv L s dn W1 (errOk_below he hb1) (rlAt_below hL hb1))
  rw [hq] at HS
  have HRd := Lib.hid (fun w' (hb : Below W1.heap.size W1 w') => reader_any lv L s dn w' (HE.out w' hb) hll (rlAt_below (rlAt_below hL hb1) hb))
  have HCl := Lib.hid (fun w' (hb : Below W1.heap.size W1 w') => eclean_any A dn _ w' (eaAt_below (eaAt_below h hb1) hb) hf)
  have HCf := Lib.hid (fewG_cl (m := 1000) (k := 1000) hf)
  have HNe := Lib.hid (fun x t => ne_al hck s dn x t)
  have HV : Hid (vwA L s dn A = (clA A).filter fun q => !(!rdB L s dn q.1)) := Lib.hid (by unfold vwA; simp)
  obtain ⟨la, lc, rfl, _⟩ := id hL
  have HW1 := Lib.hid hW1
  obtain ⟨n, hn⟩ : ∃ n, A.length = n := ⟨_, rfl⟩
  rw [hn] at HCl HW1 x0 ⊢
  obtain ⟨ln, hln⟩ : ∃ n, L.length = n := ⟨_, rfl⟩
  rw [hln] at HS HRd ⊢
  have HX := Lib.hid (And.intro x0 (And.intro x1 (And.intro hb1 hz1)))
  obtain ⟨R, hR⟩ : ∃ R, clA A = R := ⟨_, rfl⟩
  rw [hR] at HCl HCf HV
  obtain ⟨F, hF⟩ : ∃ F, vwA L s dn A = F := ⟨_, rfl⟩
  rw [hF] at HV ⊢
  obtain ⟨e0, e1⟩ := obj2s x0
  rw [← hW1] at e0 e1
  have hz0 : w.heap.size < W1.heap.size := by omega
  have hz01 : w.heap.size + 1 < W1.heap.size := by omega
  clear he hL h hq x0 x1 hb1 hn hln hW1 hck hll hR hF hf hz1
  go_enter Tryz.func20, Tryz.ntmps20
  go_wp2_with fail
  rw [HW1.out]
  refine HS.out.mono ?_
  rintro e w2 ⟨rfl, hb2⟩
  clear e0 e1
  obtain ⟨e0, e1⟩ := obj2s (obj_below HX.out.1 hb2 hz0)
  have HB2 := Lib.hid hb2
  clear hb2
  go_wp2_with fail
  refine (HRd.out _ HB2.out).mono ?_
  rintro e w3 ⟨bn, bw, rfl, hrf, hb3⟩
  clear e0 e1
  have hb13 := HB2.out.trans (hb3.mono HB2.out.size)
  obtain ⟨W4, hW4⟩ : ∃ W4, w3.alloc (.cells #[.func (.func 55) #[] #[.pointer (some ⟨bn, 0, none⟩), .pointer (some ⟨bw, 0, none⟩)]] 57) = W4 := ⟨_, rfl⟩
  have hb34 : Below w3.heap.size w3 W4 := by rw [← hW4]; exact (Below.refl _ w3).alloc (Nat.le_refl _) _
  have n8 : W4.heap[w3.heap.size]? = some (.cells #[.func (.func 55) #[] #[.pointer (some ⟨bn, 0, none⟩), .pointer (some ⟨bw, 0, none⟩)]] 57 (0, 0)) := by rw [← hW4]; exact heap_alloc_new w3 _
  have hb14 := hb13.trans (hb34.mono hb13.size)
  have hrf4 := rdFn_below hrf hb34
  obtain ⟨fv, hfv⟩ : ∃ fv, Value.func (.func 55) #[] #[.pointer (some ⟨bn, 0, none⟩), .pointer (some ⟨bw, 0, none⟩)] = fv := ⟨_, rfl⟩
  rw [hfv] at n8 hrf4
  have HFv := Lib.hid hfv
  have h4 := obj_below HX.out.1 hb14 hz0
  obtain ⟨e0, e1⟩ := obj2s h4
  rw [← hW4] at e0 e1
  have hw23 : w2.heap.size ≤ w3.heap.size := hb3.size
  have hw12 : W1.heap.size ≤ w2.heap.size := HB2.out.size
  have H4 := Lib.hid (And.intro hb14 (And.intro n8 hrf4))
  have HW4 := Lib.hid hW4
  clear hrf hb3 hb13 hW4 hb34 n8 hb14 hrf4 hfv h4
  go_wp2_with fail
  rw [HW4.out]
  refine (HCl.out _ H4.out.1).mono ?_
  rintro e w5 ⟨v, Lq, rfl, hok, hr, hb5⟩
  clear e0 e1
  have hRl := HCf.out.1
  have hb15 := H4.out.1.trans (hb5.mono H4.out.1.size)
  have y5 := obj_below HX.out.1 hb15 hz0
  have q5 := obj_below HX.out.2.1 hb15 hz01
  have r5 := rdFn_below H4.out.2.2 hb5
  have n5 := obj_below H4.out.2.1 hb5 (obj_lt H4.out.2.1)
  have hz34 : w3.heap.size < W4.heap.size := obj_lt H4.out.2.1
  obtain ⟨va, vc, rfl⟩ := ownsRow_slice hr
  obtain ⟨W6, hW6⟩ : ∃ W6, (w5.setCell ⟨w.heap.size, 0, none⟩ (.string ⟨dn.toArray⟩)).setCell ⟨w.heap.size, 1, none⟩ (.slice va R.length vc) = W6 := ⟨_, rfl⟩
  have hch6 : Chg (fun k => k = w.heap.size) w5 W6 := by
    rw [← hW6]
    exact ((Chg.refl (fun k => k = w.heap.size) w5).setCell (p := ⟨w.heap.size, 0, none⟩) (fun _ => rfl) _).setCell (p := ⟨w.heap.size, 1, none⟩) (fun _ => rfl) _
  have hst6 : VwSt w dn R (.slice va R.length vc) Lq W4.heap.size W6 := by
    rw [← hW6]
    exact ⟨set2_e y5 _ _, obj_set_other (obj_set_other q5 (by show _ ≠ w.heap.size; omega) _) (by show _ ≠ w.heap.size; omega) _, atOk_set2 hok y5 (by decide) _ _, own_set2 hr y5 (by decide) _ _, by omega, below_e2 (HX.out.2.2.1.trans (hb15.mono HX.out.2.2.1.size)) (Nat.le_refl _) _ _⟩
  have r6 := rdFn_chg r5 hch6 (fun k hk1 hk2 e => by have e : k = w.heap.size := e; omega)
  have n6 := obj_chg n5 hch6 (fun e => by have e : w3.heap.size = w.heap.size := e; omega)
  obtain ⟨rl, hrl⟩ : ∃ x, R.length = x := ⟨_, rfl⟩
  rw [hrl] at hst6 hW6 hRl ⊢
  have HRl := Lib.hid hrl
  have hkB : ∀ k, some k = (Value.slice va rl vc).ownBlock → W4.heap.size ≤ k := fun k hk => (hst6.2.2.2.1.lt k hk.symm).1
  have hs6 : W4.heap.size ≤ W6.heap.size := by have := hch6.size; have := hb5.size; omega
  have hcl : ClE (fun t => !rdB L s dn t) (.slice va rl vc) (.pointer (some ⟨w3.heap.size, 0, none⟩)) W6 := fun W t a n c htl hch => by
    refine entry1_any (nhL L s dn) t (rdB L s dn t) w3.heap.size fv a n c W (HE0.out W (hst6.2.2.2.2.2.trans (hch.toBelow hst6.2.2.2.2.2.size (fun k _ hk => by have := hkB k hk; omega)))) (fun x => HNe.out x t) ?_ (by have := hch.size; omega) (rdFn_chg r6 hch (fun k hk1 hk2 e => by have := hkB k e; omega))
    exact (chg_cell hch (by omega) (fun e => by have := hkB _ e; omega) 0).trans (obj1s n6)
  have hr6 := hst6.2.2.2.1
  rw [HRl.out] at hr6
  have HDel := Lib.hid (delE_any (fun t => !rdB L s dn t) Lq rl W4.heap.size _ W6 _ hr6 (atOk_slice hst6.2.2.1 (fun q hq => by have := (HCf.out.2 q hq).1; omega)) hcl (by omega))
  have HW6 := Lib.hid hW6
  have HS6 := Lib.hid hst6
  obtain ⟨c0, c1⟩ := obj2s y5
  have f0 := obj_free y5 0
  have f1 := obj_free y5 1
  obtain ⟨k0, k1⟩ := obj2s hst6.1
  have m8 := obj1s n6
  rw [← hW6] at k0 k1 m8
  clear hok hr y5 q5 hb5 hst6 hW6 hrl hkB hcl hr6 hb15 r5 n5 hch6 r6 n6
  go_wp2_with fail
  rw [HW6.out]
  clear c0 c1 f0 f1 m8
  refine HDel.out.mono ?_
  rintro e w9 ⟨v', rfl, hr9, hc9⟩
  clear k0 k1
  have hB9 : ∀ k, some k = (Value.slice va rl vc).ownBlock → w.heap.size + 2 ≤ k := fun k hk => by have := (HS6.out.2.2.2.1.lt k hk.symm).1; omega
  have y9 := obj_chg HS6.out.1 hc9 (fun e => by have := hB9 _ e; omega)
  have hS10 := vwSt_del HS6.out (fun t => !rdB L s dn t) hr9 hc9
  rw [← HV.out] at hS10
  obtain ⟨za, zc, rfl⟩ := ownsRow_slice hr9
  have hfl := hS10.2.2.1.1
  obtain ⟨fl, hflx⟩ : ∃ x, F.length = x := ⟨_, rfl⟩
  rw [hflx] at hfl
  rw [hfl] at hS10 ⊢
  obtain ⟨W10, hW10⟩ : ∃ W10, w9.setCell ⟨w.heap.size, 1, none⟩ (.slice za fl zc) = W10 := ⟨_, rfl⟩
  obtain ⟨c0, c1⟩ := obj2s y9
  have f1 := obj_free y9 1
  rw [hW10] at hS10
  obtain ⟨k0, k1⟩ := obj2s hS10.1
  obtain ⟨l0, l1⟩ := obj2s hS10.2.1
  have m0 := obj_free hS10.2.1 0
  have m1 := obj_free hS10.2.1 1
  rw [← hW10] at k0 k1 l0 l1 m0 m1
  have HW10 := Lib.hid hW10
  have HS10 := Lib.hid hS10
  have HFl := Lib.hid hflx
  have hne : w.heap.size + 1 ≠ w.heap.size := by omega
  clear hr9 hc9 hB9 y9 hS10 hfl hflx hW10 HRl
  go_wp2
  rw [HW10.out]
  obtain ⟨j0, j1⟩ := obj2s (set2_e HS10.out.2.1 (.string ⟨dn.toArray⟩) (.slice za fl zc))
  refine bodyPost_ret (v := .tuple #[.agg #[.string ⟨dn.toArray⟩, .slice za fl zc], .bool true]) (by simp [results, Tryz.results20, go_sem, *]) rfl ?_
  obtain ⟨hp, hbe⟩ := vwSt_end HS10.out
  exact ⟨.inr ⟨rfl, za, zc, by rw [HFl.out], by rw [HFl.out]; exact hp⟩, hbe⟩
theorem ventry_any (A : List Atr) (L : List Rl) (dn s : List UInt8) (lv av : Value) (w : World) (he : ErrOk w) (hL : RlAt w lv L) (h : EaAt w av A) (hf : FewE A) :
    Calls Tryz.prog 20 #[lv, .string ⟨s.toArray⟩, .agg #[.string ⟨dn.toArray⟩, av]] w (VePost (seB L s dn) dn (vwA L s dn A) w) := by
  cases hq : seB L s dn with
  | false => exact ventry_no A L dn s lv av w he hL h hq
  | true => exact ventry_yes A L dn s lv av w he hL h hf hq
end Go.Proofs.YtbihhdkmmlldnaaGreatDoor
