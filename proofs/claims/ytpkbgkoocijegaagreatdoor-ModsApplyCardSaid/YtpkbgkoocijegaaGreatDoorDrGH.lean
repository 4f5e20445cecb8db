/- A part in its normal form, the document's way. The normal form of a name's text, the document's way, for every text. -/
import Derived.Test.YtpkbgkoocijegaaGreatDoorDrF
import Derived.Test.YtpkbgkoocijegaaGreatDoorDqC
set_option linter.unusedVariables false
set_option linter.unusedSimpArgs false
set_option maxHeartbeats 25600000
set_option maxRecDepth 100000
namespace Go.Proofs.YtpkbgkoocijegaaGreatDoor
open Go Go.RowKit Go.Proofs.BerK Go.Proofs.MemK Go.Proofs.UtfK
def plN (T : List UInt8) : List Av -> Nat
 | [] => 0
 | q :: r => if q.1 < T then plN T r + 1 else 0
theorem plN_le (T : List UInt8) (O : List Av) : plN T O <= O.length := by
 induction O with
 | nil => exact Nat.le_refl _
 | cons q r ih => unfold plN; split <;> simp <;> omega
theorem ins_pl (p : Av) (O : List Av) : insA p O = O.take (plN p.1 O) ++ [p] ++ O.drop (plN p.1 O) := by
 induction O with
 | nil => rfl
 | cons q r ih =>
  unfold insA plN
  split
  ·rw [ih]; simp
  ·simp
theorem pl_lt (T : List UInt8) (O : List Av) (k : Nat) (h : k < plN T O) (hk : k < O.length) : O[k].1 < T := by
 induction O generalizing k with
 | nil => simp at hk
 | cons q r ih =>
  unfold plN at h
  split at h
  ·rename_i hq
   cases k with
   | zero => exact hq
   | succ k => exact ih k (by omega) (by simpa using hk)
  ·omega
theorem pl_at (T : List UInt8) (O : List Av) (hk : plN T O < O.length) : ¬ (O[plN T O].1 < T) := by
 induction O with
 | nil => simp at hk
 | cons q r ih =>
  by_cases hq : q.1 < T
  ·have e : plN T (q :: r) = plN T r + 1 := by rw [plN, if_pos hq]
   have hk2 : plN T r < r.length := by rw [e] at hk; simpa using hk
   have : (q :: r)[plN T (q :: r)] = r[plN T r] := by simp [e]
   rw [this]; exact ih hk2
  ·have e : plN T (q :: r) = 0 := by rw [plN, if_neg hq]
   have : (q :: r)[plN T (q :: r)] = q := by simp [e]
   rw [this]; exact hq
theorem insF_snoc (l : List Av) (p : Av) (o : List Av) : insF o (l ++ [p]) = insA p (insF o l) := by simp [insF]
theorem insF_len (l : List Av) (o : List Av) : (insF o l).length = l.length + o.length := by
 have := (insF_perm l o).length_eq
 simpa using this
def inO (r : List Av) (i : Nat) : List Av := insF [] ((r.take i).map nmA)
theorem inO_step (r : List Av) (i : Nat) (h : i < r.length) : inO r (i + 1) = insA (nmA r[i]) (inO r i) := by
 unfold inO
 rw [List.take_succ_eq_append_getElem h, List.map_append, List.map_cons, List.map_nil, insF_snoc]
theorem inO_len (r : List Av) (i : Nat) (h : i <= r.length) : (inO r i).length = i := by
 unfold inO
 rw [insF_len]; simp; omega
theorem ptO_none (r : List Av) (i : Nat) (h : i < r.length) (he : foldL r[i].2 = []) : ptO r = none := by
 unfold ptO
 rw [if_pos]
 rw [List.any_eq_true]
 exact ⟨r[i], List.getElem_mem h, by rw [he]; rfl⟩
theorem ptO_some (r : List Av) (h : ∀ i (hi : i < r.length), foldL r[i].2 ≠ []) : ptO r = some (inO r r.length) := by
 unfold ptO inO
 rw [if_neg, List.take_length]
 rw [List.any_eq_true]
 rintro ⟨p, hp, he⟩
 obtain ⟨i, hi, rfl⟩ := List.mem_iff_getElem.1 hp
 exact h i hi (List.isEmpty_iff.1 he)
def PtPost (o : Option (List Av)) (e : TypeId) (w : World) (en : Ending) (w' : World) : Prop :=
 match o with
 | none => en = .returned (.tuple #[.slice none 0 0, .bool false]) /\ Below w.heap.size w w'
 | some Q => ∃ v, en = .returned (.tuple #[v, .bool true]) /\ OwnAv w' w.heap.size e v Q /\ Below w.heap.size w w'
theorem ptPost_none {o : Option (List Av)} {e : TypeId} {w w' : World} (h : o = none) (hb : Below w.heap.size w w') : PtPost o e w (.returned (.tuple #[.slice none 0 0, .bool false])) w' := by subst h; exact ⟨rfl, hb⟩
theorem ptPost_some {o : Option (List Av)} {Q : List Av} {e : TypeId} {w w' : World} {v : Value} (h : o = some Q) (h1 : OwnAv w' w.heap.size e v Q) (hb : Below w.heap.size w w') : PtPost o e w (.returned (.tuple #[v, .bool true])) w' := by subst h; exact ⟨v, rfl, h1, hb⟩
theorem own_cells {w : World} {B : Nat} {e : TypeId} {g n cap : Nat} {O : List Av} (h : OwnAv w B e (.slice (some ⟨g, 0, none⟩) n cap) O) (k : Nat) (hk : k < O.length) : w.cell? ⟨g, k * 2, none⟩ = some (.string ⟨O[k].1.toArray⟩) := by
 have := h.cells (g := g) rfl (k * 2) _ (avc_at O k hk).1
 rw [addr0] at this
 exact this
theorem own_take {w : World} {B : Nat} {e : TypeId} {g cap : Nat} {O : List Av} (h : OwnAv w B e (.slice (some ⟨g, 0, none⟩) O.length cap) O) (k : Nat) (hk : k <= O.length) : RdRow w 2 (.slice (some ⟨g, 0, none⟩) k cap) k (avc (O.take k)) := by
 rw [<- avc_take]; exact rdRow_take h k hk
theorem own_drop {w : World} {B : Nat} {e : TypeId} {g cap : Nat} {O : List Av} (h : OwnAv w B e (.slice (some ⟨g, 0, none⟩) O.length cap) O) (k c : Nat) (hk : k <= O.length) : RdRow w 2 (.slice (some ⟨g, k * 2, none⟩) (O.length - k) c) (O.length - k) (avc (O.drop k)) := by
 rw [<- avc_drop]; exact rdRow_drop h k c hk
theorem own_drop_all {w : World} {g o : Nat} {O : List Av} (c k : Nat) (hk : k = O.length) : RdRow w 2 (.slice (some ⟨g, o, none⟩) (O.length - k) c) (O.length - k) (avc (O.drop k)) := by
 subst hk
 rw [List.drop_length, Nat.sub_self]
 exact ⟨by simp [avc], .inr ⟨_, _, rfl, fun j u hj => by simp [avc] at hj⟩⟩
theorem rd_zero {w : World} {ad : Addr} {O : List Av} (c k : Nat) (hk : k = O.length) : RdRow w 2 (.slice (some ad) 0 c) (O.length - k) (avc (O.drop k)) := by
 subst hk
 rw [List.drop_length, Nat.sub_self]
 exact ⟨by simp [avc], .inr ⟨_, _, rfl, fun j u hj => by simp [avc] at hj⟩⟩
theorem chg_nil {w w' : World} (h : Chg (fun k => some k = (Value.slice none 0 0).ownBlock) w w') : Below w.heap.size w w' := h.toBelow (Nat.le_refl _) (fun k _ hk => by simp [Value.ownBlock] at hk)
theorem own_mk {w : World} {B : Nat} {e : TypeId} {v : Value} {n : Nat} {xs : List Value} {O : List Av} (h : w.ownsRow B e 2 v n xs) (h1 : n = O.length) (h2 : xs = avc O) : OwnAv w B e v O := by subst h1 h2; exact h
theorem less_t {a b : List UInt8} (h : a < b) : Op.bytesLess a b = true := by rw [less_ltB]; simp [ltB, h]
theorem less_f {a b : List UInt8} (h : ¬ a < b) : Op.bytesLess a b = false := by rw [less_ltB]; simp [ltB, h]
theorem rpart_any (v : Value) (r : List Av) (hr : r.length <= 8) (hok : ∀ p ∈ r, avOk p = true) (w : World) (h : AvAt w v r) :
  Calls Tryz.prog 184 #[v] w (PtPost (ptO r) 97 w) := by
 obtain ⟨ra, rc, hv, hcap, hcells⟩ := id h
 subst hv
 have HV := Hy (An hcells hok)
 have HN := Hy (ptO_none r)
 have HS := Hy (ptO_some r)
 have HI := Hy (inO_step r)
 have HIl := Hy (inO_len r)
 obtain ⟨R, hR⟩ : ∃ R, ptO r = R := ⟨_, rfl⟩
 rw [hR] at HN HS ⊢
 clear hR h hcells hok
 go_enter Tryz.func184, Tryz.ntmps184
 go_wp2
 go_loopw [4, 5] (fun o v wr => ∃ (i : Nat), i <= r.length /\ v = .int .i64 (i : Nat) /\ OwnAv wr w.heap.size 97 o (inO r i) /\ Below w.heap.size w wr /\ ∀ j (hj : j < r.length), j < i -> foldL r[j].2 ≠ []) (fun _ v _ => r.length - (intOf v).toNat)
 case atStart => exact ⟨0, by omega, rfl, World.ownsRow_nil _ _ _ _, Below.refl _ _, fun j _ h => by omega⟩
 case round =>
  obtain ⟨i, hi, rfl, hown, hb, hne⟩ := hrel
  have hol := HIl.out i hi
  by_cases hlt : i < r.length
  ·have hil : (i : Int) < (r.length : Int) := by omega
   obtain ⟨g, o, rfl, hg, e1w, e2w⟩ := HV.out.1 i hlt
   have e1 := (hb.cell (p := ⟨g, _, none⟩) hg).trans e1w
   have e2 := (hb.cell (p := ⟨g, _, none⟩) hg).trans e2w
   have hav := avOk_len (HV.out.2 _ (List.getElem_mem hlt))
   have hst := HI.out i hlt
   have HNi := Hy (HN.out i hlt)
   obtain ⟨T, hT⟩ : ∃ T, r[i].1 = T := ⟨_, rfl⟩
   obtain ⟨V, hV⟩ : ∃ V, r[i].2 = V := ⟨_, rfl⟩
   have hnm : nmA r[i] = (lowL T, foldL V) := by unfold nmA; rw [hT, hV]
   rw [hnm] at hst
   rw [hT] at e1 hav
   rw [hV] at e2 hav HNi
   have HLo := Hy (fun w => rlow5_any ⟨T.toArray⟩ (show T.length <= _ by have := hav.1; omega) w)
   change Hid (∀ w, Calls Tryz.prog _ _ w (StrPost (lowL T) w)) at HLo
   have HFo := Hy (fun w => rfold_any ⟨V.toArray⟩ (show V.length <= _ by have := hav.2.2.1; omega) w)
   change Hid (∀ w, Calls Tryz.prog _ _ w (StrPost (foldL V) w)) at HFo
   obtain ⟨LT, hLT⟩ : ∃ L, lowL T = L := ⟨_, rfl⟩
   obtain ⟨FV, hFV⟩ : ∃ L, foldL V = L := ⟨_, rfl⟩
   rw [hLT] at HLo hst
   rw [hFV] at HFo hst HNi
   have HFe := Hy (show foldL r[i].2 = FV by rw [hV, hFV])
   have zg := Nat.lt_of_lt_of_le hg hb.size
   obtain ⟨O, hO⟩ : ∃ O, inO r i = O := ⟨_, rfl⟩
   rw [hO] at hst hown hol
   have H := Hy (An hown (An hb (An hst (An hne hol))))
   have hO8 : O.length <= 8 := by omega
   clear hown hb hst hne hol hav hT hV hnm hLT hFV hO e1w e2w
   have e3 : ∀ ob, (wr.drew.alloc ob).cell? ⟨g, o + i * 2, none⟩ = some (.string ⟨T.toArray⟩) := fun ob => (((Below.refl wr.drew.heap.size wr.drew).alloc (Nat.le_refl _) ob).cell (p := ⟨g, _, none⟩) zg).trans e1
   have e4 : ∀ ob, (wr.drew.alloc ob).cell? ⟨g, o + i * 2 + 1, none⟩ = some (.string ⟨V.toArray⟩) := fun ob => (((Below.refl wr.drew.heap.size wr.drew).alloc (Nat.le_refl _) ob).cell (p := ⟨g, _, none⟩) zg).trans e2
   go_wp2
   go_region_held3 (fun w' => w'.cell? ⟨g, o + i * 2, none⟩ = some (.string ⟨T.toArray⟩) /\ w'.cell? ⟨g, o + i * 2 + 1, none⟩ = some (.string ⟨V.toArray⟩)) (first | exact ⟨he0, he1⟩ | exact ⟨e1, e2⟩ | exact ⟨he2 _, he3 _⟩ | exact ⟨e3 _, e4 _⟩ | exact ⟨hk0, hk1⟩ | exact ⟨hk2 _, hk3 _⟩ | exact ⟨(cell_other2 hne5 _ _ _ _ _).trans hk0, (cell_other2 hne5 _ _ _ _ _).trans hk1⟩ | exact ⟨(cell_other2 hner _ _ _ _ _).trans hk0, (cell_other2 hner _ _ _ _ _).trans hk1⟩ | exact ⟨(cell_other2 hne6 _ _ _ _ _).trans (hk2 _), (cell_other2 hne6 _ _ _ _ _).trans (hk3 _)⟩ | go_keep)
    (first | (go_at_call 81; refine (HLo.out _).mono ?_; rintro en w5 ⟨rfl, hb5⟩; have hbV : Below wr.heap.size wr w5 := (by first | exact (Below.refl _ wr).drew.trans hb5 | exact ((Below.refl _ wr).drew.alloc (Nat.le_refl _) _).trans (hb5.mono (by simp))); have he0 := (hbV.cell (p := ⟨g, _, none⟩) zg).trans e1; have he1 := (hbV.cell (p := ⟨g, _, none⟩) zg).trans e2; have he2 : ∀ ob, (w5.alloc ob).cell? ⟨g, o + i * 2, none⟩ = some (.string ⟨T.toArray⟩) := (fun ob => (((Below.refl w5.heap.size w5).alloc (Nat.le_refl _) ob).cell (p := ⟨g, _, none⟩) (Nat.lt_of_lt_of_le zg hbV.size)).trans he0); have he3 : ∀ ob, (w5.alloc ob).cell? ⟨g, o + i * 2 + 1, none⟩ = some (.string ⟨V.toArray⟩) := (fun ob => (((Below.refl w5.heap.size w5).alloc (Nat.le_refl _) ob).cell (p := ⟨g, _, none⟩) (Nat.lt_of_lt_of_le zg hbV.size)).trans he1); have HV5 := Hy hbV; clear hbV; try (have hbox : w5.heap[wr.heap.size]? = some (.cells #[.string ⟨#[]⟩, .string ⟨#[]⟩] 97 (0, 0)) := obj_below (heap_alloc_new wr.drew _) hb5 (by simp); have HB5 := Hy hbox; clear hbox); clear hb5) | (go_at_call 135; refine (HFo.out _).mono ?_; rintro en w6 ⟨rfl, hb6⟩; have hk0 := (hb6.cell (p := ⟨g, o + i * 2, none⟩) (by have := HV5.out.size; first | omega | (simp; omega))).trans (by first | exact he0 | exact he2 _); have hk1 := (hb6.cell (p := ⟨g, o + i * 2 + 1, none⟩) (by have := HV5.out.size; first | omega | (simp; omega))).trans (by first | exact he1 | exact he3 _); have zg6 : g < w6.heap.size := (by have := HV5.out.size; have := hb6.size; first | omega | (simp at this; omega)); have hne5 : g ≠ w5.heap.size := (by have := HV5.out.size; omega); have hner : g ≠ wr.heap.size := (by omega); have hne6 : g ≠ w6.heap.size := (by omega); have hk2 : ∀ ob, (w6.alloc ob).cell? ⟨g, o + i * 2, none⟩ = some (.string ⟨T.toArray⟩) := (fun ob => (((Below.refl w6.heap.size w6).alloc (Nat.le_refl _) ob).cell (p := ⟨g, _, none⟩) zg6).trans hk0); have hk3 : ∀ ob, (w6.alloc ob).cell? ⟨g, o + i * 2 + 1, none⟩ = some (.string ⟨V.toArray⟩) := (fun ob => (((Below.refl w6.heap.size w6).alloc (Nat.le_refl _) ob).cell (p := ⟨g, _, none⟩) zg6).trans hk1); have HV6 : Hid (Below wr.heap.size wr w6) := (by first | exact Hy (HV5.out.trans (hb6.mono HV5.out.size)) | exact Hy ((HV5.out.alloc HV5.out.size _).trans (hb6.mono (by have := HV5.out.size; first | omega | (simp; omega))))); (first | (have hbox : w6.heap[w5.heap.size]? = some (.cells #[.string ⟨#[]⟩, .string ⟨#[]⟩] 97 (0, 0)) := obj_below (heap_alloc_new w5 _) hb6 (by simp); have b0 := (obj2 hbox).1; have b1 := (obj2 hbox).2; have f0 := obj_free hbox 0; have f1 := obj_free hbox 1; have HB6 := Hy hbox; clear hbox) | (have hbox : w6.heap[wr.heap.size]? = some (.cells #[.string ⟨#[]⟩, .string ⟨#[]⟩] 97 (0, 0)) := obj_below HB5.out hb6 (obj_lt HB5.out); have b0 := (obj2 hbox).1; have b1 := (obj2 hbox).2; have f0 := obj_free hbox 0; have f1 := obj_free hbox 1; have HB6 := Hy hbox; clear hbox) | skip); clear hb6))
   all_goals
    first
     | (obtain ⟨W7, hW7⟩ : ∃ W7, ((w6.setCell ⟨w5.heap.size, 0, none⟩ (.string ⟨LT.toArray⟩)).setCell ⟨w5.heap.size, 1, none⟩ (.string ⟨FV.toArray⟩)) = W7 := ⟨_, rfl⟩; have hbx : W7.heap[w5.heap.size]? = some (.cells #[.string ⟨LT.toArray⟩, .string ⟨FV.toArray⟩] 97 (0, 0)) := (by rw [<- hW7]; exact obj_set2 HB6.out _ _); have hb7 : Below wr.heap.size wr W7 := (by rw [<- hW7]; exact below_set2 HV6.out HV5.out.size _ _); rw [hW7]; obtain ⟨bx, hbe⟩ : ∃ bx, w5.heap.size = bx := ⟨_, rfl⟩; rw [hbe] at hbx ⊢; have H7 := Hy (An hbx hb7); clear hbx hb7 hW7 hbe)
     | (obtain ⟨W7, hW7⟩ : ∃ W7, ((w6.setCell ⟨wr.heap.size, 0, none⟩ (.string ⟨LT.toArray⟩)).setCell ⟨wr.heap.size, 1, none⟩ (.string ⟨FV.toArray⟩)) = W7 := ⟨_, rfl⟩; have hbx : W7.heap[wr.heap.size]? = some (.cells #[.string ⟨LT.toArray⟩, .string ⟨FV.toArray⟩] 97 (0, 0)) := (by rw [<- hW7]; exact obj_set2 HB6.out _ _); have hb7 : Below wr.heap.size wr W7 := (by rw [<- hW7]; exact below_set2 HV6.out (Nat.le_refl _) _ _); rw [hW7]; obtain ⟨bx, hbe⟩ : ∃ bx, wr.heap.size = bx := ⟨_, rfl⟩; rw [hbe] at hbx ⊢; have H7 := Hy (An hbx hb7); clear hbx hb7 hW7 hbe)
     | (obtain ⟨W7, hW7⟩ : ∃ W7, w6.alloc (.cells #[.string ⟨LT.toArray⟩, .string ⟨FV.toArray⟩] 97) = W7 := ⟨_, rfl⟩; have hbx : W7.heap[w6.heap.size]? = some (.cells #[.string ⟨LT.toArray⟩, .string ⟨FV.toArray⟩] 97 (0, 0)) := (by rw [<- hW7]; exact heap_alloc_new w6 _); have hb7 : Below wr.heap.size wr W7 := (by rw [<- hW7]; exact HV6.out.alloc HV6.out.size _); rw [hW7]; obtain ⟨bx, hbe⟩ : ∃ bx, w6.heap.size = bx := ⟨_, rfl⟩; rw [hbe] at hbx ⊢; have H7 := Hy (An hbx hb7); clear hbx hb7 hW7 hbe)
   all_goals
    try clear he0 he1 he2 he3
    try clear hk0 hk1 hk2 hk3
    try clear b0 b1 f0 f1
    clear e1 e2 e3 e4
    have c0 := (obj2 H7.out.1).1
    have c1 := (obj2 H7.out.1).2
    by_cases hFe : FV = []
    ·have hem := lst_e hFe
     have HR := Hy (HNi.out hFe)
     have hbT := Hy (H.out.2.1.trans (H7.out.2.mono H.out.2.1.size))
     clear hFe
     go_wp2
     go_ret2
     exact ptPost_none HR.out hbT.out
    ·have hem := lst_ne hFe
     have hne2 := Hy (show ∀ j (hj : j < r.length), j < i + 1 -> foldL r[j].2 ≠ [] from fun j hj h => by
      by_cases hji : j = i
      ·subst hji; rw [HFe.out]; exact hFe
      ·exact H.out.2.2.2.1 j hj (by omega))
     have hown7 := ownAv_below H.out.1 H7.out.2
     have hbT := Hy (H.out.2.1.trans (H7.out.2.mono H.out.2.1.size))
     clear hFe
     rcases hown7.2 with ⟨hv, h0⟩ | ⟨g2, cap, cur, hv, hB2, hg2, hnc, _⟩
     ·have hO0 : O = [] := List.eq_nil_of_length_eq_zero h0
      subst hv
      have HO0 := Hy hO0
      have HK := Hy (show plN LT O = 0 by rw [hO0]; rfl)
      have hOl0 : O.length <= 0 := by omega
      clear hown7 hO0
      go_wp2
      go_loopw [7] (fun v wr => v = .int .i64 0 /\ Below W7.heap.size W7 wr) (fun _ _ => 0)
      case atStart => exact ⟨rfl, Below.refl _ _⟩
      case round =>
       obtain ⟨rfl, hb8⟩ := hrel
       have HB8 := Hy hb8
       clear hb8
       go_wp2_with fail
       go_quiet (fail)
       obtain ⟨W8, hW8⟩ : ∃ W8, wr.drewN nq = W8 := ⟨_, rfl⟩
       rw [hW8]
       have hb8n : Below W7.heap.size W7 W8 := by rw [<- hW8]; exact below_dn HB8.out nq
       clear hW8 HB8
       have HB8 := Hy hb8n
       clear hb8n
       have hbx8 := obj_below H7.out.1 HB8.out (obj_lt H7.out.1)
       have HX8 := Hy hbx8
       clear hbx8
       go_wp2_with (at_builtin; refine wpList_appendr rfl (.tmp 47) (.tmp 50) 95 97 rfl W8.heap.size 2 32 (.agg #[.string ByteArray.empty, .string ByteArray.empty]) Tryz.dninfo97 Tryz.underlying95 rfl (by decide) (.slice none 0 0) 0 [] rfl (World.ownsRow_nil _ _ _ _) _ 0 (avc (O.take 0)) rfl ?c3 (avc_one _) ?c1 ?c2 (Nat.le_refl _) ?_)
       case c3 => simp only [List.take_zero]; exact rdRow_nil _ _
       case c1 => unfold maxLen; omega
       case c2 => omega
       intro v1 w1 g1 g2 g3
       have o1 := own_mk (O := O.take 0) g1 (by rw [List.length_take]; omega) (by simp)
       obtain ⟨a1, z1, rfl⟩ := ownsRow_slice o1
       have hb1 := chg_nil g2
       have hq := obj2 (obj_below HX8.out hb1 (obj_lt HX8.out))
       have q0 := hq.1
       have q1 := hq.2
       have H1 := Hy (An o1 hb1)
       have hl1 : (O.take 0).length <= 8 := by rw [List.length_take]; omega
       clear g1 g2 g3 o1 hb1 hq
       go_wp2_with (at_builtin; refine wpList_pushm rfl (.tmp 52) (.tmp 54) 95 97 rfl W8.heap.size 2 32 (.agg #[.string ByteArray.empty, .string ByteArray.empty]) Tryz.dninfo97 Tryz.underlying95 rfl (by decide) 1 [.string ⟨LT.toArray⟩, .string ⟨FV.toArray⟩] rfl ?c0 _ (O.take 0).length _ rfl _ rfl ?c3 H1.out.1 ?c1 ?c2 H1.out.2.size ?_)
       case c0 => intro u hu; simp at hu; rcases hu with rfl | rfl <;> rfl
       case c1 => unfold maxLen; omega
       case c2 => omega
       case c3 => first | rfl | simp
       intro v2 w2 g1 g2
       have o2 := own_mk (O := O.take 0 ++ [(LT, FV)]) g1 (by simp) (by rw [avc_app]; rfl)
       obtain ⟨a2, z2, rfl⟩ := ownsRow_slice o2
       have H2 := Hy (An o2 (H1.out.2.trans g2))
       have hl2 : (O.take 0 ++ [(LT, FV)]).length <= 9 := by simp
       clear g1 g2 o2 q0 q1
       go_wp2_with (at_builtin; refine wpList_appendr rfl (.tmp 56) (.tmp 59) 95 97 rfl W8.heap.size 2 32 (.agg #[.string ByteArray.empty, .string ByteArray.empty]) Tryz.dninfo97 Tryz.underlying95 rfl (by decide) _ (O.take 0 ++ [(LT, FV)]).length _ rfl H2.out.1 _ (O.length - 0) (avc (O.drop 0)) rfl ?c3 (avc_one _) ?c1 ?c2 H2.out.2.size ?_)
       case c3 => rw [HO0.out]; exact rdRow_nil _ _
       case c1 => unfold maxLen; omega
       case c2 => omega
       intro v3 w3 g1 g2 g3
       have o3 := own_mk (O := O.take 0 ++ [(LT, FV)] ++ O.drop 0) g1 (by simp; exact HO0.out) (avc_app _ _).symm
       have hlen : (O.take 0 ++ [(LT, FV)]).length = 1 := by simp
       have hb3 := below_chg H2.out.2 H2.out.2.size H2.out.1 (by first | exact g2 | (rw [hlen]; exact g2))
       have hfin : inO r (i + 1) = O.take 0 ++ [(LT, FV)] ++ O.drop 0 := by rw [H.out.2.2.1, ins_pl, HK.out]
       rw [<- hfin] at o3
       have hb9 := HB8.out.trans (hb3.mono HB8.out.size)
       have H9 := Hy (An (ownsRow_base o3 (Nat.le_trans hbT.out.size HB8.out.size)) (hbT.out.trans (hb9.mono hbT.out.size)))
       clear g1 g2 g3 o3 hb3 hfin hb9
       go_wp2
       exact ⟨⟨i + 1, by omega, by go_num, H9.out.1, H9.out.2, hne2.out⟩, by simp [intOf]; omega⟩
     ·subst hv
      have HO7 := Hy hown7
      have HPl := Hy (An (pl_lt LT O) (pl_at LT O))
      have hple := plN_le LT O
      obtain ⟨K, hK⟩ : ∃ K, plN LT O = K := ⟨_, rfl⟩
      rw [hK] at HPl hple
      have HK := Hy hK
      have hcapO : O.length <= cap := hnc
      have hbxl := obj_lt H7.out.1
      have hgl := obj_lt hg2
      clear hown7 hK hg2 hB2
      go_wp2
      go_loopw [7] (fun v wr => ∃ k : Nat, k <= K /\ v = .int .i64 (k : Nat) /\ Below W7.heap.size W7 wr) (fun v _ => K - (intOf v).toNat)
      case atStart => exact ⟨0, by omega, rfl, Below.refl _ _⟩
      case round =>
       obtain ⟨k, hk, rfl, hb8⟩ := hrel
       have d0 := (hb8.cell (p := ⟨bx, 0, none⟩) hbxl).trans c0
       have HB8 := Hy hb8
       by_cases hkK : k < K
       ·have hkO : k < O.length := by omega
        have hkl : (k : Int) < (O.length : Int) := by omega
        have d1 := (hb8.cell (p := ⟨g2, k * 2, none⟩) hgl).trans (own_cells HO7.out k hkO)
        have hls := less_t (HPl.out.1 k hkK hkO)
        obtain ⟨OT, hOT⟩ : ∃ OT, O[k].1 = OT := ⟨_, rfl⟩
        rw [hOT] at d1 hls
        clear hb8 hOT
        go_wp2_with fail
        go_quiet (fail)
        have HB9 := Hy (below_dn HB8.out nq)
        go_wp2
        exact ⟨⟨k + 1, by omega, by go_num, HB9.out⟩, by simp [intOf]; omega⟩
       ·obtain rfl : k = K := by omega
        by_cases hkO : k < O.length
        ·have hkl : (k : Int) < (O.length : Int) := by omega
         have d1 := (hb8.cell (p := ⟨g2, k * 2, none⟩) hgl).trans (own_cells HO7.out k hkO)
         have hls := less_f (HPl.out.2 hkO)
         have hck : ¬ cap = k := by omega
         obtain ⟨OT, hOT⟩ : ∃ OT, O[k].1 = OT := ⟨_, rfl⟩
         rw [hOT] at d1 hls
         clear hb8 hOT
         go_wp2_with fail
         go_quiet (fail)
         obtain ⟨W8, hW8⟩ : ∃ W8, wr.drewN nq = W8 := ⟨_, rfl⟩
         rw [hW8]
         have hb8n : Below W7.heap.size W7 W8 := by rw [<- hW8]; exact below_dn HB8.out nq
         clear hW8 HB8
         have HB8 := Hy hb8n
         clear hb8n
         have HO8 := Hy (ownAv_below HO7.out HB8.out)
         have hbx8 := obj_below H7.out.1 HB8.out (obj_lt H7.out.1)
         have HX8 := Hy hbx8
         clear hbx8
         go_wp2_with (at_builtin; refine wpList_appendr rfl (.tmp 47) (.tmp 50) 95 97 rfl W8.heap.size 2 32 (.agg #[.string ByteArray.empty, .string ByteArray.empty]) Tryz.dninfo97 Tryz.underlying95 rfl (by decide) (.slice none 0 0) 0 [] rfl (World.ownsRow_nil _ _ _ _) _ k (avc (O.take k)) rfl ?c3 (avc_one _) ?c1 ?c2 (Nat.le_refl _) ?_)
         case c3 => exact own_take HO8.out k (by omega)
         case c1 => unfold maxLen; omega
         case c2 => omega
         intro v1 w1 g1 g2 g3
         have o1 := own_mk (O := O.take k) g1 (by rw [List.length_take]; omega) (by simp)
         obtain ⟨a1, z1, rfl⟩ := ownsRow_slice o1
         have hb1 := chg_nil g2
         have hq := obj2 (obj_below HX8.out hb1 (obj_lt HX8.out))
         have q0 := hq.1
         have q1 := hq.2
         have H1 := Hy (An o1 hb1)
         have hl1 : (O.take k).length <= 8 := by rw [List.length_take]; omega
         clear g1 g2 g3 o1 hb1 hq
         go_wp2_with (at_builtin; refine wpList_pushm rfl (.tmp 52) (.tmp 54) 95 97 rfl W8.heap.size 2 32 (.agg #[.string ByteArray.empty, .string ByteArray.empty]) Tryz.dninfo97 Tryz.underlying95 rfl (by decide) 1 [.string ⟨LT.toArray⟩, .string ⟨FV.toArray⟩] rfl ?c0 _ (O.take k).length _ rfl _ rfl ?c3 H1.out.1 ?c1 ?c2 H1.out.2.size ?_)
         case c0 => intro u hu; simp at hu; rcases hu with rfl | rfl <;> rfl
         case c1 => unfold maxLen; omega
         case c2 => omega
         case c3 => first | rfl | simp
         intro v2 w2 g1 g2
         have o2 := own_mk (O := O.take k ++ [(LT, FV)]) g1 (by simp; omega) (by rw [avc_app]; rfl)
         obtain ⟨a2, z2, rfl⟩ := ownsRow_slice o2
         have H2 := Hy (An o2 (H1.out.2.trans g2))
         have hl2 : (O.take k ++ [(LT, FV)]).length <= 9 := by simp; omega
         clear g1 g2 o2 q0 q1
         go_wp2_with (at_builtin; refine wpList_appendr rfl (.tmp 56) (.tmp 59) 95 97 rfl W8.heap.size 2 32 (.agg #[.string ByteArray.empty, .string ByteArray.empty]) Tryz.dninfo97 Tryz.underlying95 rfl (by decide) _ (O.take k ++ [(LT, FV)]).length _ rfl H2.out.1 _ (O.length - k) (avc (O.drop k)) rfl ?c3 (avc_one _) ?c1 ?c2 H2.out.2.size ?_)
         case c3 => first | exact own_drop (ownAv_below HO8.out H2.out.2) k _ (by omega) | exact own_drop_all (O := O) _ k (by omega) | exact rd_zero (O := O) _ k (by omega)
         case c1 => unfold maxLen; omega
         case c2 => omega
         intro v3 w3 g1 g2 g3
         have o3 := own_mk (O := O.take k ++ [(LT, FV)] ++ O.drop k) g1 (by simp; omega) (avc_app _ _).symm
         have hlen : (O.take k ++ [(LT, FV)]).length = k + 1 := by simp; omega
         have hb3 := below_chg H2.out.2 H2.out.2.size H2.out.1 (by first | exact g2 | (rw [hlen]; exact g2))
         have hfin : inO r (i + 1) = O.take k ++ [(LT, FV)] ++ O.drop k := by rw [H.out.2.2.1, ins_pl, HK.out]
         rw [<- hfin] at o3
         have hb9 := HB8.out.trans (hb3.mono HB8.out.size)
         have H9 := Hy (An (ownsRow_base o3 (Nat.le_trans hbT.out.size HB8.out.size)) (hbT.out.trans (hb9.mono hbT.out.size)))
         clear g1 g2 g3 o3 hb3 hfin hb9
         go_wp2
         exact ⟨⟨i + 1, by omega, by go_num, H9.out.1, H9.out.2, hne2.out⟩, by simp [intOf]; omega⟩
        ·have hkl : ¬ ((k : Int) < (O.length : Int)) := by omega
         clear hb8
         have hck : k = cap \/ ¬ k = cap := Decidable.em _
         rcases hck with hck | hck
         ·subst hck
          go_wp2_with fail
          go_quiet (fail)
          obtain ⟨W8, hW8⟩ : ∃ W8, wr.drewN nq = W8 := ⟨_, rfl⟩
          rw [hW8]
          have hb8n : Below W7.heap.size W7 W8 := by rw [<- hW8]; exact below_dn HB8.out nq
          clear hW8 HB8
          have HB8 := Hy hb8n
          clear hb8n
          have HO8 := Hy (ownAv_below HO7.out HB8.out)
          have hbx8 := obj_below H7.out.1 HB8.out (obj_lt H7.out.1)
          have HX8 := Hy hbx8
          clear hbx8
          go_wp2_with (at_builtin; refine wpList_appendr rfl (.tmp 47) (.tmp 50) 95 97 rfl W8.heap.size 2 32 (.agg #[.string ByteArray.empty, .string ByteArray.empty]) Tryz.dninfo97 Tryz.underlying95 rfl (by decide) (.slice none 0 0) 0 [] rfl (World.ownsRow_nil _ _ _ _) _ k (avc (O.take k)) rfl ?c3 (avc_one _) ?c1 ?c2 (Nat.le_refl _) ?_)
          case c3 => exact own_take HO8.out k (by omega)
          case c1 => unfold maxLen; omega
          case c2 => omega
          intro v1 w1 g1 g2 g3
          have o1 := own_mk (O := O.take k) g1 (by rw [List.length_take]; omega) (by simp)
          obtain ⟨a1, z1, rfl⟩ := ownsRow_slice o1
          have hb1 := chg_nil g2
          have hq := obj2 (obj_below HX8.out hb1 (obj_lt HX8.out))
          have q0 := hq.1
          have q1 := hq.2
          have H1 := Hy (An o1 hb1)
          have hl1 : (O.take k).length <= 8 := by rw [List.length_take]; omega
          clear g1 g2 g3 o1 hb1 hq
          go_wp2_with (at_builtin; refine wpList_pushm rfl (.tmp 52) (.tmp 54) 95 97 rfl W8.heap.size 2 32 (.agg #[.string ByteArray.empty, .string ByteArray.empty]) Tryz.dninfo97 Tryz.underlying95 rfl (by decide) 1 [.string ⟨LT.toArray⟩, .string ⟨FV.toArray⟩] rfl ?c0 _ (O.take k).length _ rfl _ rfl ?c3 H1.out.1 ?c1 ?c2 H1.out.2.size ?_)
          case c0 => intro u hu; simp at hu; rcases hu with rfl | rfl <;> rfl
          case c1 => unfold maxLen; omega
          case c2 => omega
          case c3 => first | rfl | simp
          intro v2 w2 g1 g2
          have o2 := own_mk (O := O.take k ++ [(LT, FV)]) g1 (by simp; omega) (by rw [avc_app]; rfl)
          obtain ⟨a2, z2, rfl⟩ := ownsRow_slice o2
          have H2 := Hy (An o2 (H1.out.2.trans g2))
          have hl2 : (O.take k ++ [(LT, FV)]).length <= 9 := by simp; omega
          clear g1 g2 o2 q0 q1
          go_wp2_with (at_builtin; refine wpList_appendr rfl (.tmp 56) (.tmp 59) 95 97 rfl W8.heap.size 2 32 (.agg #[.string ByteArray.empty, .string ByteArray.empty]) Tryz.dninfo97 Tryz.underlying95 rfl (by decide) _ (O.take k ++ [(LT, FV)]).length _ rfl H2.out.1 _ (O.length - k) (avc (O.drop k)) rfl ?c3 (avc_one _) ?c1 ?c2 H2.out.2.size ?_)
          case c3 => first | exact own_drop (ownAv_below HO8.out H2.out.2) k _ (by omega) | exact own_drop_all (O := O) _ k (by omega) | exact rd_zero (O := O) _ k (by omega)
          case c1 => unfold maxLen; omega
          case c2 => omega
          intro v3 w3 g1 g2 g3
          have o3 := own_mk (O := O.take k ++ [(LT, FV)] ++ O.drop k) g1 (by simp; omega) (avc_app _ _).symm
          have hlen : (O.take k ++ [(LT, FV)]).length = k + 1 := by simp; omega
          have hb3 := below_chg H2.out.2 H2.out.2.size H2.out.1 (by first | exact g2 | (rw [hlen]; exact g2))
          have hfin : inO r (i + 1) = O.take k ++ [(LT, FV)] ++ O.drop k := by rw [H.out.2.2.1, ins_pl, HK.out]
          rw [<- hfin] at o3
          have hb9 := HB8.out.trans (hb3.mono HB8.out.size)
          have H9 := Hy (An (ownsRow_base o3 (Nat.le_trans hbT.out.size HB8.out.size)) (hbT.out.trans (hb9.mono hbT.out.size)))
          clear g1 g2 g3 o3 hb3 hfin hb9
          go_wp2
          exact ⟨⟨i + 1, by omega, by go_num, H9.out.1, H9.out.2, hne2.out⟩, by simp [intOf]; omega⟩
         ·have hck2 : ¬ cap = k := fun e => hck e.symm
          go_wp2_with fail
          go_quiet (fail)
          obtain ⟨W8, hW8⟩ : ∃ W8, wr.drewN nq = W8 := ⟨_, rfl⟩
          rw [hW8]
          have hb8n : Below W7.heap.size W7 W8 := by rw [<- hW8]; exact below_dn HB8.out nq
          clear hW8 HB8
          have HB8 := Hy hb8n
          clear hb8n
          have HO8 := Hy (ownAv_below HO7.out HB8.out)
          have hbx8 := obj_below H7.out.1 HB8.out (obj_lt H7.out.1)
          have HX8 := Hy hbx8
          clear hbx8
          go_wp2_with (at_builtin; refine wpList_appendr rfl (.tmp 47) (.tmp 50) 95 97 rfl W8.heap.size 2 32 (.agg #[.string ByteArray.empty, .string ByteArray.empty]) Tryz.dninfo97 Tryz.underlying95 rfl (by decide) (.slice none 0 0) 0 [] rfl (World.ownsRow_nil _ _ _ _) _ k (avc (O.take k)) rfl ?c3 (avc_one _) ?c1 ?c2 (Nat.le_refl _) ?_)
          case c3 => exact own_take HO8.out k (by omega)
          case c1 => unfold maxLen; omega
          case c2 => omega
          intro v1 w1 g1 g2 g3
          have o1 := own_mk (O := O.take k) g1 (by rw [List.length_take]; omega) (by simp)
          obtain ⟨a1, z1, rfl⟩ := ownsRow_slice o1
          have hb1 := chg_nil g2
          have hq := obj2 (obj_below HX8.out hb1 (obj_lt HX8.out))
          have q0 := hq.1
          have q1 := hq.2
          have H1 := Hy (An o1 hb1)
          have hl1 : (O.take k).length <= 8 := by rw [List.length_take]; omega
          clear g1 g2 g3 o1 hb1 hq
          go_wp2_with (at_builtin; refine wpList_pushm rfl (.tmp 52) (.tmp 54) 95 97 rfl W8.heap.size 2 32 (.agg #[.string ByteArray.empty, .string ByteArray.empty]) Tryz.dninfo97 Tryz.underlying95 rfl (by decide) 1 [.string ⟨LT.toArray⟩, .string ⟨FV.toArray⟩] rfl ?c0 _ (O.take k).length _ rfl _ rfl ?c3 H1.out.1 ?c1 ?c2 H1.out.2.size ?_)
          case c0 => intro u hu; simp at hu; rcases hu with rfl | rfl <;> rfl
          case c1 => unfold maxLen; omega
          case c2 => omega
          case c3 => first | rfl | simp
          intro v2 w2 g1 g2
          have o2 := own_mk (O := O.take k ++ [(LT, FV)]) g1 (by simp; omega) (by rw [avc_app]; rfl)
          obtain ⟨a2, z2, rfl⟩ := ownsRow_slice o2
          have H2 := Hy (An o2 (H1.out.2.trans g2))
          have hl2 : (O.take k ++ [(LT, FV)]).length <= 9 := by simp; omega
          clear g1 g2 o2 q0 q1
          go_wp2_with (at_builtin; refine wpList_appendr rfl (.tmp 56) (.tmp 59) 95 97 rfl W8.heap.size 2 32 (.agg #[.string ByteArray.empty, .string ByteArray.empty]) Tryz.dninfo97 Tryz.underlying95 rfl (by decide) _ (O.take k ++ [(LT, FV)]).length _ rfl H2.out.1 _ (O.length - k) (avc (O.drop k)) rfl ?c3 (avc_one _) ?c1 ?c2 H2.out.2.size ?_)
          case c3 => first | exact own_drop (ownAv_below HO8.out H2.out.2) k _ (by omega) | exact own_drop_all (O := O) _ k (by omega) | exact rd_zero (O := O) _ k (by omega)
          case c1 => unfold maxLen; omega
          case c2 => omega
          intro v3 w3 g1 g2 g3
          have o3 := own_mk (O := O.take k ++ [(LT, FV)] ++ O.drop k) g1 (by simp; omega) (avc_app _ _).symm
          have hlen : (O.take k ++ [(LT, FV)]).length = k + 1 := by simp; omega
          have hb3 := below_chg H2.out.2 H2.out.2.size H2.out.1 (by first | exact g2 | (rw [hlen]; exact g2))
          have hfin : inO r (i + 1) = O.take k ++ [(LT, FV)] ++ O.drop k := by rw [H.out.2.2.1, ins_pl, HK.out]
          rw [<- hfin] at o3
          have hb9 := HB8.out.trans (hb3.mono HB8.out.size)
          have H9 := Hy (An (ownsRow_base o3 (Nat.le_trans hbT.out.size HB8.out.size)) (hbT.out.trans (hb9.mono hbT.out.size)))
          clear g1 g2 g3 o3 hb3 hfin hb9
          go_wp2
          exact ⟨⟨i + 1, by omega, by go_num, H9.out.1, H9.out.2, hne2.out⟩, by simp [intOf]; omega⟩
  ·obtain rfl : i = r.length := by omega
   have HR := Hy (An (HS.out fun j hj => hne j hj hj) (An hown hb))
   clear hown hb hne hol
   go_wp2
   go_ret2
   exact ptPost_some HR.out.1 HR.out.2.1 HR.out.2.2
theorem nmO_none (D : List (List Av)) (i : Nat) (h : i < D.length) (hp : ptO D[i] = none) : nmO (D.drop i) = none := by rw [drop_at D i h, nmO, hp]
theorem nmO_some (D : List (List Av)) (i : Nat) (h : i < D.length) {q : List Av} (hp : ptO D[i] = some q) : nmO (D.drop i) = (nmO (D.drop (i + 1))).map (q :: ·) := by rw [drop_at D i h, nmO, hp]
def noO : Option (List (List Av)) -> List UInt8 × Nat | none => ([], 5) | some E => puD E
theorem no_docO {s : List UInt8} {D : List (List Av)} (h : rdD s = (D, 0)) : noD s = noO (nmO D) := by
 rw [no_doc h]; cases nmO D <;> rfl
theorem nmO_ty {D E : List (List Av)} (h : nmO D = some E) (hD : ∀ r ∈ D, ∀ p ∈ r, p.1.length <= 64) : ∀ r ∈ E, ∀ p ∈ r, p.1.length <= 64 := by
 induction D generalizing E with
 | nil => injection h with h; subst h; simp
 | cons r D ih =>
  rw [nmO] at h
  cases ho : ptO r with
  | none => rw [ho] at h; cases h
  | some q =>
   rw [ho] at h
   simp only [Option.map_eq_some_iff] at h
   obtain ⟨Q, h1, rfl⟩ := h
   intro x hx p hp
   rcases List.mem_cons.1 hx with rfl | hx
   ·unfold ptO at ho
    split at ho
    ·cases ho
    ·injection ho with ho
     rw [<- ho] at hp
     have hp2 := (insF_perm (r.map nmA) []).mem_iff.1 hp
     rw [List.append_nil] at hp2
     obtain ⟨z, hz, rfl⟩ := List.mem_map.1 hp2
     show (lowL z.1).length <= 64
     rw [lowL_length]
     exact hD r (by simp) z hz
   ·exact ih h1 (fun x hx => hD x (by simp [hx])) x hx p hp
theorem ptO_len {r q : List Av} (h : ptO r = some q) : q.length = r.length := by
 unfold ptO at h
 split at h
 ·cases h
 ·injection h with h; rw [<- h, insF_len]; simp
theorem rnorm_any (s : ByteArray) (w : World) : Calls Tryz.prog 138 #[.string s] w (PutPost (noD s.data.toList) w) := by
 have HR := Hy (rread_any s w)
 have HE := Hy (fun D n h => noD_err (s := s.data.toList) (D := D) (n := n) h)
 have HO := Hy (fun D h => no_docO (s := s.data.toList) (D := D) h)
 have HQ := Hy (fun D h => rdD_facts (s := s.data.toList) (D := D) h)
 obtain ⟨P, hP⟩ : ∃ P, rdD s.data.toList = P := ⟨_, rfl⟩
 rw [hP] at HR HE HO HQ
 clear hP
 obtain ⟨D, n⟩ := P
 by_cases hn : n = 0
 ·subst hn
  obtain ⟨hD32, hDp⟩ := HQ.out D rfl
  have HN := Hy (HO.out D rfl)
  have HD := Hy hDp
  obtain ⟨R, hR⟩ : ∃ R, noD s.data.toList = R := ⟨_, rfl⟩
  rw [hR] at HN ⊢
  clear hR hDp HO HE HQ
  go_enter Tryz.func138, Tryz.ntmps138
  go_wp2_with fail
  refine HR.out.mono ?_
  rintro e w1 ⟨dv, rfl, hdn, hb1⟩
  obtain ⟨da, dc, hdv, hdcap, hdcells⟩ := id hdn
  change dv = .slice da D.length dc at hdv
  subst hdv
  have HDN := Hy (An hdcells hb1)
  clear hdn hdcells hb1
  go_wp2
  go_loopw [6, 7] (fun o v wr => ∃ (i : Nat) (vs : List Value) (E : List (List Av)), i <= D.length /\ v = .int .i64 (i : Nat) /\ E.length = i /\ GridA wr w1.heap.size 95 97 o vs E /\ Below w1.heap.size w1 wr /\ nmO D = (nmO (D.drop i)).map (E ++ ·)) (fun _ v _ => D.length - (intOf v).toNat)
  case atStart => exact ⟨0, [], [], by omega, rfl, rfl, gridA_nil _ _ _ _, Below.refl _ _, by rw [List.drop_zero]; simp⟩
  case round =>
   obtain ⟨i, vs, E, hi, rfl, hE, hgrid, hb, hinv⟩ := hrel
   obtain ⟨ga, gc, rfl⟩ := ownsRow_slice hgrid.2.1
   by_cases hlt : i < D.length
   ·have hil : (i : Int) < (D.length : Int) := by omega
    obtain ⟨g, o, u, rfl, hg, e1w, hav⟩ := HDN.out.1 i hlt
    have e1 := (hb.cell (p := ⟨g, o + i, none⟩) hg).trans e1w
    have hav2 := avAt_below hav hb
    obtain ⟨p1, p2, p3⟩ := prL_facts (HD.out _ (List.getElem_mem hlt))
    have HPt := Hy (rpart_any u D[i] p2 p3 wr hav2)
    have HN1 := Hy (nmO_none D i hlt)
    have HS1 := Hy (fun q => nmO_some D i hlt (q := q))
    have HLn := Hy (fun q => ptO_len (r := D[i]) (q := q))
    obtain ⟨ua, uc, hu, _⟩ := id hav2
    subst hu
    obtain ⟨r, hr⟩ : ∃ r, D[i] = r := ⟨_, rfl⟩
    rw [hr] at HPt HN1 HS1 HLn e1 p2
    obtain ⟨ot, hot⟩ : ∃ ot, ptO r = ot := ⟨_, rfl⟩
    rw [hot] at HPt HN1 HS1 HLn
    have H := Hy (An hgrid (An hb (An hinv hE)))
    have hE32 : E.length <= 32 := by omega
    clear hgrid hb hinv hE hav hav2 p1 p3 hr hot e1w
    cases ot with
    | none =>
     have HI := Hy (show R = ([], 5) by rw [HN.out, H.out.2.2.1, HN1.out rfl]; rfl)
     change Hid (Calls Tryz.prog _ _ wr fun en w' => en = .returned (.tuple #[.slice none 0 0, .bool false]) /\ Below wr.heap.size wr w') at HPt
     go_wp2_with fail
     refine HPt.out.mono ?_
     rintro e w2 ⟨rfl, hb2⟩
     have HB2 := Hy (HDN.out.2.trans ((H.out.2.1.trans (hb2.mono H.out.2.1.size)).mono HDN.out.2.size))
     clear hb2
     go_wp2
     go_ret2
     exact putPost_mk (a := []) (n := 5) HI.out HB2.out
    | some q =>
     have HI := Hy (show nmO D = (nmO (D.drop (i + 1))).map ((E ++ [q]) ++ ·) by
      rw [H.out.2.2.1, HS1.out q rfl, Option.map_map]; congr 1; funext x; simp)
     change Hid (Calls Tryz.prog _ _ wr fun en w' => ∃ v, en = .returned (.tuple #[v, .bool true]) /\ OwnAv w' wr.heap.size _ v q /\ Below wr.heap.size wr w') at HPt
     go_wp2_with fail
     refine HPt.out.mono ?_
     rintro e w2 ⟨qv, rfl, hq, hb2⟩
     obtain ⟨qa, qc, rfl⟩ := ownsRow_slice hq
     have hgr := gridA_below H.out.1 hb2
     have hap := apart_base (B2 := w1.heap.size) H.out.1.2.1 hq (Nat.le_refl _)
     have HX := Hy (An hgr (An hap (An (H.out.2.1.trans (hb2.mono H.out.2.1.size)) (show OwnAv w2 w1.heap.size _ _ q from ownsRow_base hq H.out.2.1.size))))
     clear hgr hap hb2 hq
     go_wp2_with (at_builtin; refine wpList_pushc rfl (.tmp 34) (.tmp 36) 91 95 rfl w1.heap.size 1 24 (.slice none 0 0) Tryz.dninfo95 Tryz.underlying91 rfl (by decide) [.slice qa q.length qc] rfl ?c0 _ E.length _ rfl _ rfl ?c3 HX.out.1.2.1 ?c1 ?c2 HX.out.2.2.1.size ?_)
     case c0 => first | rfl | (intro u hu; simp at hu; subst hu; rfl)
     case c1 => unfold maxLen; omega
     case c2 => omega
     case c3 => first | rfl | simp
     intro v' w' g1 g2 g3
     have hg := gridA_snoc HX.out.1 HX.out.2.2.2 HX.out.2.1 g1 g2 g3
     have hbb := below_chg HX.out.2.2.1 HX.out.2.2.1.size HX.out.1.2.1 g2
     have H9 := Hy (An hg hbb)
     clear g1 g2 g3 hg hbb
     go_wp2
     exact ⟨⟨i + 1, vs ++ [.slice qa q.length qc], E ++ [q], by omega, by go_num, by simp [H.out.2.2.2], H9.out.1, H9.out.2, HI.out⟩, by simp [intOf]; omega⟩
   ·obtain rfl : i = D.length := by omega
    have hps : nmO D = some E := by rw [hinv, List.drop_of_length_le (Nat.le_refl _)]; simp [nmO]
    have hty := nmO_ty hps (fun r hr p hp => by have := (avOk_len ((prL_facts (HD.out r hr)).2.2 p hp)).1; exact this)
    have HC := Hy (rput6_any (.slice ga E.length gc) E (fun r hr p hp => by have := hty r hr p hp; omega) wr (dnAt_grid hgrid))
    have HI := Hy (show R = puD E by rw [HN.out, hps]; rfl)
    have HB := Hy (HDN.out.2.trans (hb.mono HDN.out.2.size))
    obtain ⟨pq, hpq⟩ : ∃ pq, puD E = pq := ⟨_, rfl⟩
    rw [hpq] at HC HI
    obtain ⟨X, m⟩ := pq
    clear hgrid hb hinv hps hty hpq hE
    go_wp2_with fail
    refine HC.out.mono ?_
    rintro e w3 ⟨rfl, hb3⟩
    have HB3 := Hy (HB.out.trans (hb3.mono HB.out.size))
    clear hb3
    go_wp2
    go_ret2
    exact putPost_mk HI.out HB3.out
 ·have hq : ((n : Int) != 0) = true := by rw [bne_iff_ne]; omega
  have HI := Hy (HE.out D n rfl hn)
  clear hn HO HE HQ
  go_enter Tryz.func138, Tryz.ntmps138
  go_wp2_with fail
  refine HR.out.mono ?_
  rintro e w1 ⟨dv, rfl, hdn, hb1⟩
  have HB := Hy hb1
  clear hdn hb1
  go_wp2
  go_ret2
  exact putPost_mk (a := []) HI.out HB.out
end Go.Proofs.YtpkbgkoocijegaaGreatDoor
