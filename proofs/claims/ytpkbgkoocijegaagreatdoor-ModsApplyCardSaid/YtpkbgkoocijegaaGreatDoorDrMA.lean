/- Names read as the document reads them, plainly. The document's digits, texts parted, blanks left out. -/
import Derived.Test.YtpkbgkoocijegaaGreatDoorDqI
import Derived.Test.YtpkbgkoocijegaaGreatDoorFoldAE
import Derived.Sort.LotA
import Derived.Test.YtpkbgkoocijegaaGreatDoorDqE
set_option linter.unusedVariables false
set_option linter.unusedSimpArgs false
set_option maxHeartbeats 25600000
set_option maxRecDepth 100000
namespace Go.Proofs.YtpkbgkoocijegaaGreatDoor
open Go Go.RowKit Go.Proofs.BerK Go.Proofs.MemK Go.Proofs.UtfK
def sp1 (t : UInt8) : List UInt8 -> List UInt8 × List (List UInt8)
 | [] => ([], [])
 | c :: r =>
  if c = 92 then
   match r with
   | [] => ([c], [])
   | d :: r' => let x := sp1 t r'; (c :: d :: x.1, x.2)
  else let x := sp1 t r
   if c = t then ([], x.1 :: x.2) else (c :: x.1, x.2)
def spB (t : UInt8) (s : List UInt8) : List (List UInt8) := (sp1 t s).1 :: (sp1 t s).2
theorem sp1_slash (t : UInt8) (r : List UInt8) : sp1 t (92 :: r) = ((92 :: r).take 2 ++ (sp1 t ((92 :: r).drop 2)).1, (sp1 t ((92 :: r).drop 2)).2) := by
 cases r with
 | nil => simp [sp1]
 | cons d r' => rw [sp1]; simp
theorem sp1_at (t : UInt8) (r : List UInt8) (h : t ≠ 92) : sp1 t (t :: r) = ([], (sp1 t r).1 :: (sp1 t r).2) := by
 conv => lhs; unfold sp1
 cases r <;> simp [h]
theorem sp1_else (t c : UInt8) (r : List UInt8) (h1 : c ≠ 92) (h2 : c ≠ t) : sp1 t (c :: r) = (c :: (sp1 t r).1, (sp1 t r).2) := by
 conv => lhs; unfold sp1
 cases r <;> simp [h1, h2]
theorem splG_sp (n : Nat) : ∀ s : List UInt8, s.length <= n -> splG s = ((sp1 43 (sp1 44 s).1).1, (sp1 43 (sp1 44 s).1).2, (sp1 44 s).2.map (spB 43)) := by
 induction n with
 | zero =>
  intro s h
  obtain rfl : s = [] := List.eq_nil_of_length_eq_zero (by omega)
  rfl
 | succ n ih =>
  intro s h
  cases s with
  | nil => rfl
  | cons c r =>
   simp only [List.length_cons] at h
   have hr := ih r (by omega)
   by_cases h92 : c = 92
   ·subst h92
    cases r with
    | nil => rw [splG_slash, sp1_slash]; simp [splG, sp1]
    | cons d r' =>
     have hr2 := ih r' (by simp at h; omega)
     rw [splG_slash, sp1_slash]
     simp only [List.take_succ_cons, List.take_zero, List.drop_succ_cons, List.drop_zero]
     rw [hr2]
     simp only [List.cons_append, List.nil_append]
     rw [sp1_slash]
     simp
   ·by_cases h43 : c = 43
    ·subst h43
     rw [splG_plus, sp1_else 44 43 r (by decide) (by decide), sp1_at 43 _ (by decide), hr]
    ·by_cases h44 : c = 44
     ·subst h44
      rw [splG_comma, sp1_at 44 r (by decide), hr]
      rfl
     ·rw [splG_else _ _ h92 h43 h44, sp1_else 44 _ _ h92 h44, sp1_else 43 _ _ h92 h43, hr]
theorem splL_sp (s : List UInt8) : splL s = (spB 44 s).map (spB 43) := by
 unfold splL splT
 rw [splG_sp s.length s (Nat.le_refl _)]
 simp [spB]
theorem sp1_len (t : UInt8) (n : Nat) : ∀ s : List UInt8, s.length <= n -> (sp1 t s).1.length <= s.length /\ (sp1 t s).2.length <= s.length /\ ∀ x ∈ (sp1 t s).2, x.length <= s.length := by
 induction n with
 | zero =>
  intro s h
  obtain rfl : s = [] := List.eq_nil_of_length_eq_zero (by omega)
  simp [sp1]
 | succ n ih =>
  intro s h
  cases s with
  | nil => simp [sp1]
  | cons c r =>
   simp only [List.length_cons] at h
   obtain ⟨a1, a2, a3⟩ := ih r (by omega)
   by_cases h92 : c = 92
   ·subst h92
    cases r with
    | nil => rw [sp1_slash]; simp [sp1]
    | cons d r' =>
     obtain ⟨b1, b2, b3⟩ := ih r' (by simp at h; omega)
     rw [sp1_slash]
     simp only [List.take_succ_cons, List.take_zero, List.drop_succ_cons, List.drop_zero, List.length_cons, List.cons_append, List.nil_append]
     exact ⟨by omega, by omega, fun x hx => by have := b3 x hx; omega⟩
   ·by_cases ht : c = t
    ·subst ht
     rw [sp1_at _ _ h92]
     simp only [List.length_cons, List.length_nil]
     refine ⟨by omega, by omega, fun x hx => ?_⟩
     rcases List.mem_cons.1 hx with rfl | hx
     ·omega
     ·have := a3 x hx; omega
    ·rw [sp1_else _ _ _ h92 ht]
     simp only [List.length_cons]
     exact ⟨by omega, by omega, fun x hx => by have := a3 x hx; omega⟩
theorem spB_len (t : UInt8) (s : List UInt8) : (spB t s).length <= s.length + 1 /\ ∀ x ∈ spB t s, x.length <= s.length := by
 obtain ⟨a1, a2, a3⟩ := sp1_len t s.length s (Nat.le_refl _)
 refine ⟨by simp [spB]; exact a2, fun x hx => ?_⟩
 rcases List.mem_cons.1 hx with rfl | hx
 ·exact a1
 ·exact a3 x hx
theorem dw_app (p : UInt8 -> Bool) (a b : List UInt8) : (a ++ b).dropWhile p = if a.dropWhile p = [] then b.dropWhile p else a.dropWhile p ++ b := by
 induction a with
 | nil => simp
 | cons c r ih =>
  rw [List.cons_append, List.dropWhile_cons, List.dropWhile_cons]
  cases p c with
  | true => simpa using ih
  | false => simp
theorem trB_cons (c : UInt8) (r : List UInt8) : trB (c :: r) = if trB r = [] then (if c = 32 then [] else [c]) else c :: trB r := by
 unfold trB
 rw [List.reverse_cons, dw_app]
 by_cases h : List.dropWhile (· == 32) r.reverse = []
 ·rw [if_pos h, if_pos (by rw [h]; rfl)]
  by_cases hc : c = 32 <;> simp [hc]
 ·rw [if_neg h, if_neg (by simpa using h)]
  simp
theorem trim_swap (s : List UInt8) : trB (tlB s) = tlB (trB s) := by
 induction s with
 | nil => rfl
 | cons c r ih =>
  by_cases hc : c = 32
  ·subst hc
   rw [tlB_cons, if_pos rfl, ih, trB_cons]
   by_cases h : trB r = []
   ·rw [if_pos h, if_pos rfl, h]
   ·rw [if_neg h, tlB_cons, if_pos rfl]
  ·rw [tlB_cons, if_neg hc, trB_cons]
   by_cases h : trB r = []
   ·rw [if_pos h, if_neg hc, tlB_cons, if_neg hc]
   ·rw [if_neg h, tlB_cons, if_neg hc]
open Go.Sort hiding Below
theorem cmpA_lt (x y : Av) : ltOf cmpA x y = decide (x.1 < y.1) := by
 unfold ltOf cmpA cmpB
 simp only [ByteArray.toList_eq]
 rw [less_ltB]
 unfold ltB
 by_cases h : x.1 < y.1
 ·simp [h]
 ·simp only [h, decide_false, Bool.false_eq_true, if_false]
  split <;> simp
theorem swo_key : SWO (ltOf cmpA) where
 irrefl x := by rw [cmpA_lt]; simp [List.lt_irrefl]
 trans x y z h1 h2 := by simp only [cmpA_lt, decide_eq_true_eq] at *; exact List.lt_trans h1 h2
 ntrans x y z h1 h2 := by
  simp only [cmpA_lt, decide_eq_false_iff_not, List.not_lt] at *
  exact List.le_trans h2 h1
def InO (r : List Av) : Prop := r.Pairwise fun x y => ¬ y.1 < x.1
theorem srtR_spec (r : List Av) : (srtR r).Perm r /\ InO (srtR r) := by
 obtain ⟨hP, hS⟩ := insertionSort_holds swo_key r.toArray 0 r.length (Nat.zero_le _) (by simp)
 obtain ⟨hsz, _, hperm⟩ := hP
 have hsz2 : (insertionSort (ltOf cmpA) r.toArray 0 r.length).size = r.length := by rw [hsz]; simp
 have e1 : (insertionSort (ltOf cmpA) r.toArray 0 r.length).extract 0 r.length = insertionSort (ltOf cmpA) r.toArray 0 r.length := by
  conv => lhs; arg 3; rw [<- hsz2]
  exact Array.extract_size
 rw [e1, show r.toArray.extract 0 r.length = r.toArray from Array.extract_size] at hperm
 refine ⟨by simpa [srtR] using hperm, ?_⟩
 unfold InO srtR
 rw [List.pairwise_iff_getElem]
 intro i j hi hj hij
 have hi' : i < (insertionSort (ltOf cmpA) r.toArray 0 r.length).size := by simpa using hi
 have hj' : j < (insertionSort (ltOf cmpA) r.toArray 0 r.length).size := by simpa using hj
 have := hS i j (Nat.zero_le _) hij (by omega)
 rw [getElem!_pos _ j hj', getElem!_pos _ i hi', cmpA_lt] at this
 simpa using this
theorem insA_perm (p : Av) (o : List Av) : (insA p o).Perm (p :: o) := by
 induction o with
 | nil => exact List.Perm.refl _
 | cons q r ih =>
  unfold insA
  split
  ·exact (ih.cons q).trans (List.Perm.swap p q r)
  ·exact List.Perm.refl _
theorem insA_ord (p : Av) (o : List Av) (h : InO o) : InO (insA p o) := by
 induction o with
 | nil => exact List.pairwise_singleton _ _
 | cons q r ih =>
  obtain ⟨h1, h2⟩ := List.pairwise_cons.1 h
  unfold insA
  split
  ·rename_i hlt
   refine List.pairwise_cons.2 ⟨fun x hx => ?_, ih h2⟩
   rcases List.mem_cons.1 ((insA_perm p r).mem_iff.1 hx) with rfl | hx
   ·exact fun h' => List.lt_irrefl _ (List.lt_trans hlt h')
   ·exact h1 x hx
  ·rename_i hlt
   refine List.pairwise_cons.2 ⟨fun x hx => ?_, h⟩
   rcases List.mem_cons.1 hx with rfl | hx
   ·exact hlt
   ·have := h1 x hx
    rw [List.not_lt] at this hlt ⊢
    exact List.le_trans hlt this
def insF (o l : List Av) : List Av := l.foldl (fun o p => insA p o) o
theorem insF_perm (l : List Av) : ∀ o, (insF o l).Perm (l ++ o) := by
 induction l with
 | nil => intro o; exact List.Perm.refl _
 | cons p l ih =>
  intro o
  exact (ih (insA p o)).trans ((List.Perm.append_left l (insA_perm p o)).trans (List.perm_middle))
theorem insF_ord (l : List Av) : ∀ o, InO o -> InO (insF o l) := by
 induction l with
 | nil => intro o h; exact h
 | cons p l ih => intro o h; exact ih _ (insA_ord p o h)
theorem srt_ins (l : List Av) (hd : ∀ a ∈ l, ∀ b ∈ l, a.1 = b.1 -> a = b) : srtR l = insF [] l := by
 obtain ⟨p1, p2⟩ := srtR_spec l
 have q1 := insF_perm l []
 rw [List.append_nil] at q1
 have p3 : List.Pairwise (fun x y : Av => ¬ y.1 < x.1) (srtR l) := p2
 have q3 : List.Pairwise (fun x y : Av => ¬ y.1 < x.1) (insF [] l) := insF_ord l [] List.Pairwise.nil
 refine List.Perm.eq_of_pairwise ?_ p3 q3 (p1.trans q1.symm)
 intro a b ha hb h1 h2
 rw [List.not_lt] at h1 h2
 exact hd a (p1.mem_iff.1 ha) b (q1.mem_iff.1 hb) (List.le_antisymm h1 h2)
theorem pg_keys (r : List Av) : ∀ seen, pgL seen r = true -> (∀ q ∈ seen, ∀ p ∈ r, lowL q.1 ≠ lowL p.1) /\ ∀ p ∈ r, ∀ q ∈ r, lowL p.1 = lowL q.1 -> p = q := by
 induction r with
 | nil => intro seen _; exact ⟨fun _ _ p hp => by simp at hp, fun p hp => by simp at hp⟩
 | cons x r ih =>
  intro seen h
  rw [pgL, Bool.and_eq_true, Bool.and_eq_true] at h
  obtain ⟨⟨_, h2⟩, h3⟩ := h
  obtain ⟨i1, i2⟩ := ih _ h3
  have hx : ∀ q ∈ seen, lowL q.1 ≠ lowL x.1 := by
   intro q hq e
   simp only [twL, Bool.not_eq_true', List.any_eq_false] at h2
   exact h2 q hq (by simpa using e)
  refine ⟨fun q hq p hp => ?_, fun p hp q hq e => ?_⟩
  ·rcases List.mem_cons.1 hp with rfl | hp
   ·exact hx q hq
   ·exact i1 q (by simp [hq]) p hp
  ·rcases List.mem_cons.1 hp with hp' | hp'
   ·rcases List.mem_cons.1 hq with hq' | hq'
    ·rw [hp', hq']
    ·rw [hp'] at e; exact absurd e (i1 x (by simp) q hq')
   ·rcases List.mem_cons.1 hq with hq' | hq'
    ·rw [hq'] at e; exact absurd e.symm (i1 x (by simp) p hp')
    ·exact i2 p hp' q hq' e
theorem nmR_ins {r : List Av} (h : prL r = true) : nmR r = insF [] (r.map nmA) := by
 refine srt_ins _ fun a ha b hb e => ?_
 obtain ⟨p, hp, rfl⟩ := List.mem_map.1 ha
 obtain ⟨q, hq, rfl⟩ := List.mem_map.1 hb
 simp only [prL, Bool.and_eq_true] at h
 rw [(pg_keys r [] h.2).2 p hp q hq e]
def ptO (r : List Av) : Option (List Av) := if r.any (fun p => (foldL p.2).isEmpty) = true then none else some (insF [] (r.map nmA))
def nmO : List (List Av) -> Option (List (List Av))
 | [] => some []
 | r :: D => match ptO r with | none => none | some q => (nmO D).map (q :: ·)
theorem nmO_good (D : List (List Av)) (h : ∀ r ∈ D, prL r = true) : (nmO D = none /\ ∃ r ∈ D, prL (nmR r) = false) \/ nmO D = some (D.map nmR) := by
 induction D with
 | nil => exact .inr rfl
 | cons r D ih =>
  have hr := h r (by simp)
  rw [nmO]
  cases ho : ptO r with
  | none =>
   refine .inl ⟨rfl, r, by simp, ?_⟩
   unfold ptO at ho
   split at ho
   ·rename_i ha
    rw [List.any_eq_true] at ha
    obtain ⟨p, hp, hq⟩ := ha
    cases hc : prL (nmR r) with
    | false => rfl
    | true =>
     have := (prL_facts hc).2.2 (nmA p) ((srtR_spec _).1.mem_iff.2 (List.mem_map.2 ⟨p, hp, rfl⟩))
     simp only [avOk, nmA, Bool.and_eq_true, decide_eq_true_eq] at this
     exact absurd (List.isEmpty_iff.1 hq) (of_decide_eq_true this.1.2)
   ·cases ho
  | some q =>
   have hq : q = nmR r := by
    unfold ptO at ho
    split at ho
    ·cases ho
    ·injection ho with ho; rw [<- ho, nmR_ins hr]
   subst hq
   rcases ih (fun x hx => h x (by simp [hx])) with ⟨i1, x, hx, i2⟩ | i
   ·exact .inl ⟨by rw [i1]; rfl, x, by simp [hx], i2⟩
   ·exact .inr (by simp only [i]; rfl)
theorem no_doc {s : List UInt8} {D : List (List Av)} (h : rdD s = (D, 0)) : noD s = match nmO D with | none => ([], 5) | some E => puD E := by
 obtain ⟨q1, q2⟩ := rdD_facts h
 rw [noD_ok h]
 rcases nmO_good D q2 with ⟨h1, r, hr, h2⟩ | h1
 ·rw [h1]
  have h6 : ckD (D.map nmR) = 5 := by
   unfold ckD
   rw [if_neg (by simp; omega), if_neg]
   rw [List.all_eq_true]
   intro hh
   rw [hh (nmR r) (List.mem_map.2 ⟨r, hr, rfl⟩)] at h2
   cases h2
  unfold puD
  rw [h6]; rfl
 ·rw [h1]
theorem pureI_mk {n m : Int} {w : World} (h : n = m) : PureI n w (.returned (.int .i64 m)) w := by subst h; exact ⟨rfl, rfl⟩
theorem rhex_any (c : Nat) (hc : c < 256) (w : World) : Calls Tryz.prog 188 #[.int .u8 (c : Nat)] w (PureI ((hxN c : Nat) : Int) w) := by
 go_enter Tryz.func188, Tryz.ntmps188
 go_wp2
 all_goals (go_ret; refine pureI_mk ?_; unfold hxN; (repeat' split) <;> omega)
def csp (s : ByteArray) (t : UInt8) (f i : Nat) : List (List UInt8) := (curL s f i ++ (sp1 t (s.data.toList.drop i)).1) :: (sp1 t (s.data.toList.drop i)).2
theorem csp_slash (s : ByteArray) (t : UInt8) (f i : Nat) (hf : f <= i) (h : i < s.size) (hc : s[i] = 92) : csp s t f i = csp s t f (i + 2) := by
 have hl := len_list s
 have hd := drop_at s.data.toList i (by omega)
 rw [at_list s i h, hc] at hd
 unfold csp
 rw [cur_more s f i 2 hf, hd, sp1_slash, <- hd, List.drop_drop]
 simp
theorem csp_at (s : ByteArray) (t : UInt8) (f i : Nat) (h : i < s.size) (hc : s[i] = t) (ht : t ≠ 92) : csp s t f i = curL s f i :: csp s t (i + 1) (i + 1) := by
 have hl := len_list s
 have hd := drop_at s.data.toList i (by omega)
 rw [at_list s i h, hc] at hd
 unfold csp
 rw [hd, sp1_at _ _ ht, cur_nil]
 simp
theorem csp_else (s : ByteArray) (t : UInt8) (f i : Nat) (hf : f <= i) (h : i < s.size) (h1 : s[i] ≠ 92) (h2 : s[i] ≠ t) : csp s t f i = csp s t f (i + 1) := by
 have hl := len_list s
 have hd := drop_at s.data.toList i (by omega)
 rw [at_list s i h] at hd
 unfold csp
 rw [cur_more s f i 1 hf, hd, sp1_else _ _ _ h1 h2]
 simp
theorem csp_end (s : ByteArray) (t : UInt8) (f i : Nat) (h : s.size <= i) : csp s t f i = [curL s f s.size] := by
 have hl := len_list s
 unfold csp
 rw [cur_end s f i h, List.drop_of_length_le (by omega)]
 simp [sp1]
theorem csp_start (s : ByteArray) (t : UInt8) : csp s t 0 0 = spB t s.data.toList := by
 unfold csp spB
 rw [cur_nil, List.drop_zero]; rfl
def TxsPost (L : List (List UInt8)) (e : TypeId) (w : World) (en : Ending) (w' : World) : Prop :=
 ∃ v, en = .returned v /\ w'.ownsRow w.heap.size e 1 v L.length (sc L) /\ Below w.heap.size w w'
theorem txsPost_mk {L : List (List UInt8)} {e : TypeId} {w w' : World} {v : Value} (h : w'.ownsRow w.heap.size e 1 v L.length (sc L)) (hb : Below w.heap.size w w') : TxsPost L e w (.returned v) w' := ⟨v, rfl, h, hb⟩
theorem txs_cong {w : World} {B : Nat} {e : TypeId} {v : Value} {L M : List (List UInt8)} (h : w.ownsRow B e 1 v L.length (sc L)) (e1 : L = M) : w.ownsRow B e 1 v M.length (sc M) := e1 ▸ h
theorem rsplit_any (s : ByteArray) (t : UInt8) (ht : t ≠ 92) (hm : s.size <= 100000) (w : World) :
  Calls Tryz.prog 88 #[.string s, .int .u8 (t.toNat : Nat)] w (TxsPost (spB t s.data.toList) 9 w) := by
 have HE := Lib.hid (ext_word s)
 have HX := Lib.hid (csp_start s t)
 have h8t : t.toNat < 256 := t.toNat_lt
 have HT := Lib.hid ht
 obtain ⟨R, hR⟩ : ∃ R, spB t s.data.toList = R := ⟨_, rfl⟩
 rw [hR] at HX ⊢
 clear hR ht
 go_enter Tryz.func88, Tryz.ntmps88
 go_wp2
 go_loopw [5, 6, 7] (fun v fr iv wr => ∃ (O : List (List UInt8)) (f i : Nat), f <= s.size /\ f <= i /\ i <= s.size + 1 /\ fr = .int .i64 (f : Nat) /\ iv = .int .i64 (i : Nat) /\ wr.ownsRow w.heap.size 9 1 v O.length (sc O) /\ Below w.heap.size w wr /\ O.length <= f /\ O ++ csp s t f i = R) (fun _ _ iv _ => s.size + 1 - (intOf iv).toNat)
 case atStart => exact ⟨[], 0, 0, by omega, by omega, by omega, rfl, rfl, World.ownsRow_nil _ _ _ _, Below.refl _ _, by simp, by rw [HX.out]; rfl⟩
 case round =>
  obtain ⟨O, f, i, hf, hfi, hi, rfl, rfl, hown, hb, hlen, hinv⟩ := hrel
  obtain ⟨va, vc, rfl⟩ := ownsRow_slice hown
  by_cases hlt : i < s.size
  ·have hil : (i : Int) < (s.size : Int) := by omega
   have h8 : s[i].toNat < 256 := s[i].toNat_lt
   have HC := Lib.hid (And.intro (csp_slash s t f i hfi hlt) (And.intro (csp_at s t f i hlt) (csp_else s t f i hfi hlt)))
   have H := Lib.hid (And.intro hown (And.intro hb (And.intro hlen hinv)))
   have hfi' : (f : Int) <= (i : Int) := by omega
   have his : (i : Int) <= (s.size : Int) := by omega
   have hex := HE.out f i
   change s.extract f i = ⟨(curL s f i).toArray⟩ at hex
   clear hown hb hlen hinv
   obtain ⟨c, hc⟩ : ∃ c, s[i] = c := ⟨_, rfl⟩
   rw [hc] at h8 HC
   by_cases h92 : c = 92
   ·have q : ((c.toNat : Int) == 92) = true := by rw [h92]; rfl
    have HI := Lib.hid (HC.out.1 h92)
    clear h92
    go_wp2
    refine ⟨⟨O, f, i + 2, hf, by omega, by omega, rfl, by go_num, H.out.1, H.out.2.1, H.out.2.2.1, by rw [<- HI.out]; exact H.out.2.2.2⟩, by simp [intOf]; omega⟩
   have q1 : ((c.toNat : Int) == 92) = false := by rw [beq_eq_false_iff_ne]; intro hh; apply h92; apply UInt8.toNat_inj.1; show _ = 92; omega
   by_cases hct : c = t
   ·have q2 : ((c.toNat : Int) == (t.toNat : Int)) = true := by rw [hct]; simp
    have HI := Lib.hid (HC.out.2.1 hct HT.out)
    clear h92 hct
    go_wp2_with (at_builtin; refine wpList_pushm rfl (.tmp 25) (.tmp 30) 43 9 rfl w.heap.size 1 16 (.string ByteArray.empty) Tryz.dninfo9 Tryz.underlying43 rfl (by decide) 1 [.string ⟨(curL s f i).toArray⟩] rfl ?c0 _ O.length _ rfl _ rfl ?c3 H.out.1 ?c1 ?c2 H.out.2.1.size ?_)
    case c0 => first | rfl | (intro u hu; simp at hu; subst hu; rfl)
    case c1 => have := H.out.2.2.1; unfold maxLen; omega
    case c2 => have := H.out.2.2.1; omega
    case c3 => rfl
    intro v' w' g1 g2
    have g3 : w'.ownsRow w.heap.size 9 1 v' (O ++ [curL s f i]).length (sc (O ++ [curL s f i])) := by rw [sc_snoc, List.length_append]; exact g1
    have H2 := Lib.hid (And.intro g3 (H.out.2.1.trans g2))
    clear g1 g2 g3
    go_wp2
    refine ⟨⟨O ++ [curL s f i], i + 1, i + 1, by omega, by omega, by omega, by go_num, by go_num, H2.out.1, H2.out.2, by have := H.out.2.2.1; simp; omega, ?_⟩, by simp [intOf]; omega⟩
    rw [<- H.out.2.2.2, HI.out]; simp
   ·have q2 : ((c.toNat : Int) == (t.toNat : Int)) = false := by rw [beq_eq_false_iff_ne]; intro hh; apply hct; apply UInt8.toNat_inj.1; omega
    have HI := Lib.hid (HC.out.2.2 h92 hct)
    clear h92 hct
    go_wp2
    refine ⟨⟨O, f, i + 1, hf, by omega, by omega, rfl, by go_num, H.out.1, H.out.2.1, H.out.2.2.1, by rw [<- HI.out]; exact H.out.2.2.2⟩, by simp [intOf]; omega⟩
  ·have hil : ¬ (i : Int) < (s.size : Int) := by omega
   rw [csp_end s t f i (by omega)] at hinv
   have hfs : (f : Int) <= (s.size : Int) := by omega
   have hex := HE.out f s.size
   change s.extract f s.size = ⟨(curL s f s.size).toArray⟩ at hex
   have H := Lib.hid (And.intro hown (And.intro hb (And.intro hlen hinv)))
   clear hown hb hlen hinv
   go_wp2_with (at_builtin; refine wpList_pushm rfl (.tmp 34) (.tmp 38) 43 9 rfl w.heap.size 1 16 (.string ByteArray.empty) Tryz.dninfo9 Tryz.underlying43 rfl (by decide) 1 [.string ⟨(curL s f s.size).toArray⟩] rfl ?c0 _ O.length _ rfl _ rfl ?c3 H.out.1 ?c1 ?c2 H.out.2.1.size ?_)
   case c0 => first | rfl | (intro u hu; simp at hu; subst hu; rfl)
   case c1 => have := H.out.2.2.1; unfold maxLen; omega
   case c2 => have := H.out.2.2.1; omega
   case c3 => rfl
   intro v' w' g1 g2
   have g3 : w'.ownsRow w.heap.size 9 1 v' (O ++ [curL s f s.size]).length (sc (O ++ [curL s f s.size])) := by rw [sc_snoc, List.length_append]; exact g1
   have H2 := Lib.hid (And.intro (txs_cong g3 H.out.2.2.2) (H.out.2.1.trans g2))
   clear g1 g2 g3
   go_wp2
   go_ret
   exact txsPost_mk H2.out.1 H2.out.2
theorem rtrim_any (s : ByteArray) (hs : s.size <= 140737488355328) (w : World) : Calls Tryz.prog 144 #[.string s] w (PureS (tlB (trB s.data.toList)) w) := by
 rw [<- trim_swap]
 obtain ⟨L, hL⟩ : ∃ L, s.data.toList = L := ⟨_, rfl⟩
 rw [hL]
 go_enter Tryz.func144, Tryz.ntmps144
 go_wp2
 go_loop [0] (fun v => ∃ x : ByteArray, v = .string x /\ x.size <= 140737488355328 /\ tlB x.data.toList = tlB L) (fun v => strSz v)
 case atStart => exact ⟨s, rfl, hs, by rw [hL]⟩
 case round =>
  obtain ⟨x, rfl, hxs, hx⟩ := hrel
  by_cases h : 0 < x.size /\ x.data.toList.head? = some 32
  ·obtain ⟨hp, h32⟩ := h
   have hcut := list_cut x hp
   have h0 : x[0] = 32 := by rw [hcut] at h32; simpa using h32
   rw [hcut, tlB_cons, if_pos h0] at hx
   have ht : ((x[0].toNat : Int) == 32) = true := by rw [h0]; rfl
   have hb := x[0].toNat_lt
   have hne := str_ne x hp
   have h3 : (1 : Int) <= (x.size : Int) := by omega
   have h1 : 1 <= x.size := hp
   have hz : (x.extract 1 x.size).size = x.size - 1 := by rw [<- len_list (x.extract 1 x.size), Lib.extract_to_end, List.length_drop, len_list]
   have H := Lib.hid (And.intro hx hz)
   obtain ⟨c, hc⟩ : ∃ c, x[0].toNat = c := ⟨_, rfl⟩
   rw [hc] at ht hb
   clear hx hcut h0 h32 hz
   go_wp2
   refine ⟨⟨_, rfl, by rw [H.out.2]; omega, H.out.1⟩, ?_⟩
   show (x.extract 1 x.size).size < x.size
   rw [H.out.2]; omega
  ·have hT : tlB x.data.toList = x.data.toList := by
    by_cases hp : 0 < x.size
    ·have hcut := list_cut x hp
     rw [hcut, tlB_cons, if_neg (fun e => h ⟨hp, by rw [hcut, e]; rfl⟩)]
    ·have hn : x.data.toList = [] := List.eq_nil_of_length_eq_zero (by rw [len_list]; omega)
     rw [hn]; rfl
   rw [hT] at hx
   have hw : x.size = 0 \/ ∃ hp : 0 < x.size, x[0] ≠ 32 := by
    by_cases hp : 0 < x.size
    ·exact .inr ⟨hp, fun e => h ⟨hp, by rw [list_cut x hp, e]; rfl⟩⟩
    ·exact .inl (by omega)
   have H := Lib.hid hx
   clear h hT hx
   have key : ∀ (P : Prop), (∀ y : ByteArray, y.size <= 140737488355328 -> trB y.data.toList = trB (tlB L) -> True) -> True := fun _ _ => trivial
   rcases hw with hp | ⟨hp, h0⟩
   ·have hne := str_e x hp
    have HN := Lib.hid (show trB (tlB L) = x.data.toList by
     have hn : x.data.toList = [] := List.eq_nil_of_length_eq_zero (by rw [len_list]; exact hp)
     rw [<- H.out, hn]; rfl)
    clear key hp
    go_wp2
    go_loop [0] (fun v => v = .string x) (fun v => 0)
    case atStart => rfl
    case round =>
     obtain rfl := hrel
     go_wp2
     go_ret
     exact pureS_mk HN.out
   ·have hne := str_ne x hp
    have ht : ((x[0].toNat : Int) == 32) = false := by
     rw [beq_eq_false_iff_ne]; intro hh; apply h0; apply UInt8.toNat_inj.1; show _ = 32; omega
    have hb := x[0].toNat_lt
    obtain ⟨c, hc⟩ : ∃ c, x[0].toNat = c := ⟨_, rfl⟩
    rw [hc] at ht hb
    clear key h0
    go_wp2
    go_loop [0] (fun v => ∃ y : ByteArray, v = .string y /\ y.size <= 140737488355328 /\ trB y.data.toList = trB (tlB L)) (fun v => strSz v)
    case atStart => exact ⟨x, rfl, hxs, by rw [H.out]⟩
    case round =>
     obtain ⟨y, rfl, hys, hy⟩ := hrel
     clear hne ht hb hc
     by_cases hq : y.size = 0
     ·have hn : y.data.toList = [] := List.eq_nil_of_length_eq_zero (by rw [len_list]; exact hq)
      have hne := str_e y hq
      rw [hn] at hy
      have HN := Lib.hid (hy.symm.trans (show trB [] = y.data.toList by rw [hn]; rfl))
      clear hy hn hq
      go_wp2
      go_ret
      exact pureS_mk HN.out
     ·have hq2 : 0 < y.size := by omega
      obtain ⟨n, hn⟩ : ∃ n, y.size = n + 1 := ⟨y.size - 1, by omega⟩
      have hne := str_ne y hq2
      have hcut := list_last y hq2
      have hlast : y[y.size - 1] = y[n]'(by omega) := by congr 1; omega
      rw [hcut, trB_snoc, hlast] at hy
      rw [hlast] at hcut
      have hb := (y[n]'(by omega)).toNat_lt
      have hextr : y.extract 0 (y.size - 1) = y.extract 0 n := by rw [hn]; rfl
      rw [hextr] at hy hcut
      by_cases h0 : y[n]'(by omega) = 32
      ·rw [if_pos h0] at hy
       have ht : (((y[n]'(by omega)).toNat : Int) == 32) = true := by rw [h0]; rfl
       have hz : (y.extract 0 n).size = n := by rw [<- len_list (y.extract 0 n), Lib.extract_data, List.drop_zero, List.length_take, len_list]; omega
       have H2 := Lib.hid (And.intro hy hz)
       clear hy hcut h0 hq hlast hextr hz
       go_wp2
       refine ⟨⟨_, rfl, by rw [H2.out.2]; omega, H2.out.1⟩, ?_⟩
       show (y.extract 0 n).size < y.size
       rw [H2.out.2, hn]; omega
      ·rw [if_neg h0] at hy
       have ht : (((y[n]'(by omega)).toNat : Int) == 32) = false := by
        rw [beq_eq_false_iff_ne]; intro hh; apply h0; apply UInt8.toNat_inj.1; show _ = 32; omega
       rw [<- hcut] at hy
       have H2 := Lib.hid hy
       clear hy hcut h0 hq hlast hextr
       go_wp2
       go_ret
       exact pureS_mk H2.out.symm
end Go.Proofs.YtpkbgkoocijegaaGreatDoor
