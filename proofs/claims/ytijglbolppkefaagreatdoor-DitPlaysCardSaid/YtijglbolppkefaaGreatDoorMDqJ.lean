/- The given texts, read and put. -/
import Derived.Test.YtijglbolppkefaaGreatDoorDqI
import Derived.Test.YtijglbolppkefaaGreatDoorMDqA
import Derived.Test.YtijglbolppkefaaGreatDoorMLayw
import Derived.Test.YtijglbolppkefaaGreatDoorSnAL
import Derived.Sort.KeysCollected
import Derived.Test.YtijglbolppkefaaGreatDoorSnNT
import Derived.Test.YtijglbolppkefaaGreatDoorScAD
set_option linter.unusedVariables false
set_option linter.unusedSimpArgs false
set_option maxHeartbeats 25600000
set_option maxRecDepth 100000
namespace Go.Proofs.YtijglbolppkefaaGreatDoor
open Go.Proofs.Tryz
open Go Go.RowKit Go.Proofs.BerK Go.Proofs.MemK Go.Proofs.UtfK
variable {f l : Bool}
theorem zob {p:Prop} (h:p:=by
 have:=zeI hr (zs L t) (zs L t+1+j) hk Om Om
 rw [he] at this
 exact this):p:=h
theorem zwC:∀ n:Fin 256,zaO (hxD (n.val/16)).toNat=false/\hxN (hxD (n.val/16)).toNat<16/\hxN (hxD (n.val%16)).toNat<16/\UInt8.ofNat (16*hxN (hxD (n.val/16)).toNat+hxN (hxD (n.val%16)).toNat)=UInt8.ofNat n.val/\hxD (n.val%16)≠92/\hxD (n.val%16)≠43/\hxD (n.val%16)≠44:=by decide +kernel
theorem zjp (c:UInt8):zaO (hxD (c.toNat/16)).toNat=false/\hxN (hxD (c.toNat/16)).toNat<16/\hxN (hxD (c.toNat%16)).toNat<16/\UInt8.ofNat (16*hxN (hxD (c.toNat/16)).toNat+hxN (hxD (c.toNat%16)).toNat)=c/\hxD (c.toNat%16)≠92/\hxD (c.toNat%16)≠43/\hxD (c.toNat%16)≠44:=by
 have h:=zwC ⟨c.toNat,c.toNat_lt⟩
 have e:UInt8.ofNat c.toNat=c:=by simp
 simp only [e] at h
 exact h
theorem zjq {c:UInt8} (h:mkN f l c.toNat=false):c≠92/\c≠43/\c≠44:=by
 refine ⟨?_,?_,?_⟩ <;> (rintro rfl;revert h;cases f <;> cases l <;> decide)
theorem zwD {c:Nat} (h:mkN f l c=true):zaO c=true:=by
 unfold mkN at h
 unfold zaO
 split at h
 ·rename_i e;simp [e]
 split at h
 ·rename_i e;simp [e]
 simp [h]
theorem zwE (s:Bs):∀ (f:Bool) (u:Bs),zv (egL f s++u)=(egL f s++(zv u).1,(zv u).2):=by
 induction s with
 | nil=>intro f u;rfl
 | cons c r ih =>
  intro f u
  rw [egL,List.append_assoc]
  cases hb:zau c.toNat with
  | true =>
   obtain ⟨_,_,_,_,n1,n2,n3⟩:=zjp c
   rw [zeE _ _ _ hb]
   simp only [List.cons_append,List.nil_append]
   rw [zeN]
   simp only [List.take_succ_cons,List.take_zero,List.drop_succ_cons,List.drop_zero]
   rw [zd1 _ _ n1 n2 n3,ih false u]
   rfl
  | false =>
   cases hm:mkN f r.isEmpty c.toNat with
   | true =>
    rw [zeF _ _ _ hb hm]
    simp only [List.cons_append,List.nil_append]
    rw [zeN]
    simp only [List.take_succ_cons,List.take_zero,List.drop_succ_cons,List.drop_zero]
    rw [ih false u]
    rfl
   | false =>
    obtain ⟨n1,n2,n3⟩:=zjq hm
    rw [zeG _ _ _ hb hm]
    simp only [List.cons_append,List.nil_append]
    rw [zd1 _ _ n1 n2 n3,ih false u]
theorem zwF (s:Bs):∀ f:Bool,rvG f (egL f s)=some s:=by
 induction s with
 | nil=>intro f;cases f <;> simp [egL,rvG]
 | cons c r ih =>
  intro f
  rw [egL]
  cases hb:zau c.toNat with
  | true =>
   obtain ⟨m1,m2,m3,m4,_⟩:=zjp c
   rw [zeE _ _ _ hb]
   simp only [List.cons_append,List.nil_append]
   rw [zek,zfG _ _ _ (by simp [m1]),if_pos ⟨m2,m3⟩,m4]
   simp only [List.drop_succ_cons,List.drop_zero]
   rw [ih false];rfl
  | false =>
   cases hm:mkN f r.isEmpty c.toNat with
   | true =>
    rw [zeF _ _ _ hb hm]
    simp only [List.cons_append,List.nil_append]
    rw [zek,zgZ _ _ (zwD hm)]
    simp only [List.drop_succ_cons,List.drop_zero]
    rw [ih false];rfl
   | false =>
    obtain ⟨n1,n2,n3⟩:=zjq hm
    rw [zeG _ _ _ hb hm]
    simp only [List.cons_append,List.nil_append]
    by_cases bA:c=32
    ·subst bA
     rw [zlL,ih false,Option.map_some]
     have hr:r≠[]:=by
      rintro rfl
      revert hm;cases f <;> decide
     rw [if_neg hr]
    have Ip:c.toNat≠32:=fun e=>bA (UInt8.toNat_inj.1 (by simpa using e))
    rw [zlP f r.isEmpty false _ Ip] at hm
    rw [zf6 _ _ _ bA n1 (by rw [hb,hm];simp),ih false];rfl
theorem zwG (s:Bs):tlB (egL true s)=egL true s:=by
 cases s with
 | nil=>rfl
 | cons c r =>
  unfold tlB
  rw [egL]
  cases hb:zau c.toNat with
  | true=>rw [zeE _ _ _ hb];rfl
  | false =>
   cases hm:mkN true r.isEmpty c.toNat with
   | true=>rw [zeF _ _ _ hb hm];rfl
   | false =>
    have bA:c≠32:=by rintro rfl;revert hm;cases r <;> simp [mkN]
    rw [zeG _ _ _ hb hm,List.cons_append,List.nil_append,List.dropWhile_cons_of_neg (by simpa using bA)]
end Go.Proofs.YtijglbolppkefaaGreatDoor
namespace Go.Proofs.YtijglbolppkefaaGreatDoor
open Go.Proofs.Tryz
open Go Go.RowKit Go.Proofs.BerK Go.Proofs.MemK Go.Proofs.UtfK Go.Maps Go.Sort Go.Shelf
def zdY (N:List (Bs)):List (Bs):=N.mergeSort (fun x y=>decide (x<=y))
end Go.Proofs.YtijglbolppkefaaGreatDoor
namespace Go.Proofs.YtijglbolppkefaaGreatDoor
open Go.Proofs.Tryz
open Go Go.RowKit Go.Proofs.BerK Go.Proofs.MemK Go.Proofs.UtfK
def zm (L:List (Bs × Value)):List Value:=L.flatMap fun q=>[.string ⟨q.1.toArray⟩,q.2]
theorem zca:∀ (L:List (Bs × Value)) (i:Nat) (h:i<L.length),(zm L)[i*2]?=some (.string ⟨L[i].1.toArray⟩)/\(zm L)[i*2+1]?=some L[i].2:=by
 intro L
 induction L with
 | nil=>intro i h;simp at h
 | cons c L ih =>
  intro i h
  have e:zm (c :: L)=.string ⟨c.1.toArray⟩ :: c.2 :: zm L:=rfl
  cases i with
  | zero=>rw [e];exact ⟨rfl,rfl⟩
  | succ i =>
   have:=ih i (by simpa using h)
   rw [e,show (i+1)*2=i*2+1+1 by omega]
   simpa using this
theorem zoc:zdD plT:=by have:=zxY plT;rwa [zq0] at this
theorem zwH:zdh plC:=by have:=zxZ plC;rwa [zq1] at this
theorem Tryz.sninfo74 : (prog.info? 74).map (fun i=>(i.zero,i.size,i.bytes))=some (some (.agg #[.string ByteArray.empty,.slice none 0 0]),2,40):=by kernel_rfl
end Go.Proofs.YtijglbolppkefaaGreatDoor
namespace Go.Proofs.YtijglbolppkefaaGreatDoor
open Go.Proofs.Tryz
open Go Go.Sort Go.Proofs.BerK
def zbG (T:List Ty) (A:List Atr):Nat :=
 if zaC T A=false then 17 else if (A.any fun a=>a.2.length==0)=true then 19 else if zbM (A.map (tyG T)) A=false then 21 else 0
def onS (TL:List Ty) (A:List Atr):Nat :=
 if ¬ (TL.map (·.1)).Nodup then 20 else if (nmG TL A).any zan=true then 20 else if tmB TL (nmG TL A)=true then 19 else 0
theorem zwI (T:List Ty) (C:List Cl) (A:List Atr):zaP T C A=if zbG T A≠0 then zbG T A else if onS (A.map (tyG T)) A≠0 then onS (A.map (tyG T)) A else if zaW C ((A.map (tyG T)).map (·.1)) A=false then 65 else 0:=by
 unfold zaP zbG onS
 repeat' split
 all_goals simp_all
end Go.Proofs.YtijglbolppkefaaGreatDoor
namespace Go.Proofs.YtijglbolppkefaaGreatDoor
open Go.Proofs.Tryz
open Go Go.RowKit Go.Proofs.BerK Go.Proofs.MemK Go.Proofs.UtfK
variable {a b : Bs}
theorem zwJ {α:Type} (p:α->Bool):∀ (l:List α) (k:Nat) (h:k<(l.takeWhile p).length) (hk:k<l.length),p l[k]=true:=by
 intro l
 induction l with
 | nil=>intro k h hk;simp at hk
 | cons x l ih =>
  intro k h hk
  cases hx:p x
  ·simp [List.takeWhile,hx] at h
  cases k with
  | zero=>simpa using hx
  | succ k =>
   simp only [List.takeWhile,hx,List.length_cons] at h
   simpa using ih k Om (by simpa using hk)
theorem zwK {α:Type} (p:α->Bool) (l:List α):(l.takeWhile p).length<=l.length:=by
 induction l with
 | nil=>simp
 | cons x l ih=>cases hx:p x <;> simp [List.takeWhile,hx];exact ih
theorem zwL {α:Type} (p:α->Bool):∀ (l:List α) (hk:(l.takeWhile p).length<l.length),p l[(l.takeWhile p).length]=false:=by
 intro l
 induction l with
 | nil=>intro h;simp at h
 | cons x l ih =>
  intro hk
  cases hx:p x
  ·simp [List.takeWhile,hx]
  have h2:(l.takeWhile p).length<l.length:=by simpa [List.takeWhile,hx] using hk
  have:=ih h2
  simp only [List.takeWhile,hx,List.length_cons,List.getElem_cons_succ]
  exact this
theorem zjr (h:ltB a b=true):Op.bytesLess a b=true:=by rw [zdX];exact h
theorem zjs (h:ltB a b=false):Op.bytesLess a b=false:=by rw [zdX];exact h
theorem zc2 {w w':World} {n c:Nat} (h:Chg (fun k=>some k=(Value.slice none n c).ownBlock) w w'):Below w.heap.size w w':=h.toBelow Lr (fun k _ hk=>by cases hk)
end Go.Proofs.YtijglbolppkefaaGreatDoor
namespace Go.Proofs.YtijglbolppkefaaGreatDoor
open Go.Proofs.Tryz
open Go Go.Sort Go.Proofs.BerK
variable {l : List (Bs)} {n t x : Bs} {A L : List Atr} {p : Atr}
def zn (acc:List (Bs)) (x:Bs):List (Bs):=if inL acc x=true then acc else acc++[x]
def onL (l:List (Bs)):List (Bs):=l.foldl zn []
theorem zdv:inL l x=true ↔ x∈l:=by unfold inL;simp
theorem zod (l:List (Bs)) (x:Bs):onL (l++[x])=zn (onL l) x:=by simp [onL]
theorem zwM (a b:List (Bs)):onL (a++b)=b.foldl zn (onL a):=by simp [onL]
theorem zwN (acc:List (Bs)) (x y:Bs):y∈zn acc x ↔ y∈acc\/y=x:=by
 unfold zn
 split
 ·rename_i h
  rw [zdv] at h
  constructor
  ·exact .inl
  rintro (h2 | rfl)
  ·exact h2
  exact h
 simp
theorem zwO {acc:List (Bs)} (h:acc.Nodup) (x:Bs):(zn acc x).Nodup:=by
 unfold zn
 split
 ·exact h
 rename_i hx
 rw [zdv] at hx
 rw [List.nodup_append]
 refine ⟨h,by simp,fun a ha b hb e=>?_⟩
 rw [List.mem_singleton] at hb
 subst hb e
 exact hx ha
theorem zoe (b acc:List (Bs)) (h:acc.Nodup):(b.foldl zn acc).Nodup/\∀ y,y∈b.foldl zn acc ↔ y∈acc\/y∈b:=by
 induction b generalizing acc with
 | nil=>exact ⟨h,fun y=>by simp⟩
 | cons x b ih =>
  obtain ⟨h1,h2⟩:=ih (zn acc x) (zwO h x)
  refine ⟨h1,fun y=>?_⟩
  rw [List.foldl_cons,h2,zwN,List.mem_cons,or_assoc]
theorem zjt (l:List (Bs)):(onL l).Nodup:=(zoe l [] List.nodup_nil).1
theorem zju {y:Bs}:y∈onL l ↔ y∈l:=by
 have:=(zoe l [] List.nodup_nil).2 y
 simpa [onL] using this
theorem zwP (h:l.Nodup):onL l=l:=by
 have gen:∀ (b acc:List (Bs)),(acc++b).Nodup->b.foldl zn acc=acc++b:=by
  intro b
  induction b with
  | nil=>intro acc _;simp
  | cons x b ih =>
   intro acc h
   have hx:x ∉ acc:=by
    rw [List.nodup_append] at h
    exact fun hm=>h.2.2 x hm x Sm rfl
   have e:zn acc x=acc++[x]:=by
    unfold zn
    rw [if_neg]
    rw [zdv];exact hx
   rw [List.foldl_cons,e,ih (acc++[x]) (by simpa using h)]
   simp
 simpa [onL] using gen l [] (by simpa using h)
theorem zwQ (l:List (Bs)):onL (onL l)=onL l:=zwP (zjt l)
theorem zdw:onL l=[] ↔ l=[]:=by
 constructor
 ·intro h
  cases l with
  | nil=>rfl
  | cons x l =>
   have:x∈onL (x :: l):=zju.2 Sm
   rw [h] at this
   simp at this
 rintro rfl;rfl
def vaL (A:List Atr) (n:Bs):List (Bs):=(A.filter fun a=>za a.1==n).flatMap (·.2)
def zeH (A:List Atr):List (Bs):=zdY (onL ((A.filter fun a => !a.2.isEmpty).map fun a=>za a.1))
def clA (A:List Atr):List Atr:=(zeH A).map fun n=>(n,onL (vaL A n))
def zfC (A:List Atr) (L:List Atr):Prop:=L.Pairwise (fun p q=>p.1<q.1)/\∀ p,p∈L ↔ p.2=onL (vaL A p.1)/\p.2≠[]
theorem zgN:vaL A n≠[] ↔ ∃ a∈A,a.2≠[]/\za a.1=n:=by
 unfold vaL
 constructor
 ·intro h
  obtain ⟨x,hx⟩:=List.exists_mem_of_ne_nil _ h
  obtain ⟨a,ha,EQ⟩:=List.mem_flatMap.1 hx
  obtain ⟨ha1,ha2⟩:=List.mem_filter.1 ha
  exact ⟨a,ha1,fun e=>by rw [e] at EQ;simp at EQ,by simpa using ha2⟩
 rintro ⟨a,ha,aH,hn⟩ e
 obtain ⟨x,hx⟩:=List.exists_mem_of_ne_nil _ aH
 have:x∈(A.filter fun a=>za a.1==n).flatMap (·.2):=List.mem_flatMap.2 ⟨a,List.mem_filter.2 ⟨ha,by simpa using hn⟩,hx⟩
 rw [e] at this;simp at this
theorem zof {L:List (Bs)}:x∈zdY L ↔ x∈L:=(List.mergeSort_perm L _).mem_iff
theorem zwR {L:List (Bs)} (h:L.Nodup):(zdY L).Pairwise (· < ·):=by
 have tr:∀ a b c:Bs,leB a b=true->leB b c=true->leB a c=true:=fun a b c h1 h2=>by simp only [leB,decide_eq_true_eq] at *;exact List.le_trans h1 h2
 have tot:∀ a b:Bs,(leB a b || leB b a)=true:=fun a b=>by simp only [leB,Bool.or_eq_true,decide_eq_true_eq];exact List.le_total a b
 have h1:(zdY L).Pairwise (fun a b=>leB a b=true):=List.pairwise_mergeSort tr tot L
 have h2:(zdY L).Nodup:=((List.mergeSort_perm L _).nodup_iff).2 h
 refine (h1.and h2).imp fun {a b} wT=>?_
 obtain ⟨h3,h4⟩:=wT
 simp only [leB,decide_eq_true_eq] at h3
 rcases Decidable.em (a<b) with h5 | h5
 ·exact h5
 exact absurd (List.le_antisymm h3 (List.not_lt.1 h5)) h4
theorem zjv:n∈zeH A ↔ vaL A n≠[]:=by
 unfold zeH
 rw [zof,zju,zgN]
 simp only [List.mem_map,List.mem_filter]
 constructor
 ·rintro ⟨a,⟨ha,aH⟩,rfl⟩
  exact ⟨a,ha,by simpa using aH,rfl⟩
 rintro ⟨a,ha,aH,rfl⟩
 exact ⟨a,⟨ha,by simpa using aH⟩,rfl⟩
theorem zbX (A:List Atr):zfC A (clA A):=by
 refine ⟨?_,fun p=>?_⟩
 ·unfold clA
  rw [List.pairwise_map]
  exact zwR (zjt _)
 unfold clA
 rw [List.mem_map]
 constructor
 ·rintro ⟨n,hn,rfl⟩
  exact ⟨rfl,fun e=>zjv.1 hn (zdw.1 e)⟩
 rintro ⟨h1,h2⟩
 refine ⟨p.1,zjv.2 (fun e=>h2 (by rw [h1,e];rfl)),?_⟩
 rw [<- h1]
theorem zwS {L':List Atr} (h:zfC A L) (h':zfC A L'):L=L':=by
 have nd:∀ {L:List Atr},zfC A L->L.Nodup:=fun h=>h.1.imp fun aj e=>by subst e;exact absurd aj (List.lt_irrefl _)
 refine List.Perm.eq_of_pairwise (le:=fun p q=>p.1<q.1) (fun a b _ _ h1 h2=>absurd (List.lt_trans h1 h2) (List.lt_irrefl _)) h.1 h'.1 ?_
 exact (List.perm_ext_iff_of_nodup (nd h) (nd h')).2 fun p=>(h.2 p).trans (h'.2 p).symm
theorem zjw (h:zfC A L):L=clA A:=zwS h (zbX A)
theorem zjx (h:p∈clA A):za p.1=p.1:=by
 obtain ⟨h1,h2⟩:=(zbX A).2 p |>.1 h
 have:vaL A p.1≠[]:=fun e=>h2 (by rw [h1,e];rfl)
 obtain ⟨a,_,_,e⟩:=zgN.1 this
 rw [<- e,zjL]
theorem zwT (A:List Atr) (n:Bs):vaL (clA A) n=onL (vaL A n):=by
 by_cases hn:vaL A n=[]
 ·rw [hn]
  have:vaL (clA A) n=[]:=by
   by_cases e:vaL (clA A) n=[]
   ·exact e
   obtain ⟨p,hp,aH,hl⟩:=zgN.1 e
   rw [zjx hp] at hl
   have:=((zbX A).2 p |>.1 hp).1
   rw [hl,hn] at this
   exact absurd this aH
  rw [this];rfl
 have hm:(n,onL (vaL A n))∈clA A:=(zbX A).2 _ |>.2 ⟨rfl,fun e=>hn (zdw.1 e)⟩
 unfold vaL at *
 have hf:(clA A).filter (fun a=>za a.1==n)=[(n,onL ((A.filter fun a=>za a.1==n).flatMap (·.2)))]:=by
  have uT:∀ p∈(clA A).filter (fun a=>za a.1==n),p=(n,onL ((A.filter fun a=>za a.1==n).flatMap (·.2))):=fun p hp=>by
   obtain ⟨h1,h2⟩:=List.mem_filter.1 hp
   have h3:p.1=n:=by rw [<- zjx h1];simpa using h2
   have h4:=((zbX A).2 p |>.1 h1).1
   rw [h3] at h4
   unfold vaL at h4
   exact Prod.ext h3 h4
  have dF:(n,onL ((A.filter fun a=>za a.1==n).flatMap (·.2)))∈(clA A).filter (fun a=>za a.1==n):=List.mem_filter.2 ⟨hm,by
   have:=zjx hm
   simpa using this⟩
  have bR:((clA A).filter (fun a=>za a.1==n)).Nodup:=by
   have:(clA A).Nodup:=(zbX A).1.imp fun aj e=>by subst e;exact absurd aj (List.lt_irrefl _)
   exact this.filter _
  generalize (clA A).filter (fun a=>za a.1==n)=F at *
  match F with
  | []=>simp at dF
  | [q]=>rw [uT q Sm]
  | q :: r :: F =>
   have h1:=uT q Sm
   have h2:=uT r Sm
   rw [List.nodup_cons] at bR
   exact absurd (by rw [h1,h2];simp) bR.1
 rw [hf]
 simp
def geL (A:List Atr) (s:Bs):List (Bs):=onL (vaL A (za s))
theorem zog (A B:List Atr) (n:Bs):vaL (A++B) n=vaL A n++vaL B n:=by unfold vaL;rw [List.filter_append,List.flatMap_append]
def woL (A:List Atr) (s:Bs):List Atr:=(clA A).filter fun a => !(a.1==za s)
def zs (L:List Atr) (t:Bs):Nat:=(L.takeWhile fun p=>ltB p.1 t).length
def zaF (L:List Atr) (t:Bs):List (Bs):=if h:zs L t<L.length then (if L[zs L t].1=t then L[zs L t].2 else []) else []
def zcq (L:List Atr) (t:Bs):List Atr:=if h:zs L t<L.length then (if L[zs L t].1=t then L.drop (zs L t+1) else L.drop (zs L t)) else []
def zZ (L:List Atr) (t:Bs) (vs:List (Bs)):List Atr :=
 L.take (zs L t)++((if vs.foldl zn (zaF L t)=[] then [] else [(t,vs.foldl zn (zaF L t))])++zcq L t)
theorem zoh (L:List Atr) (t:Bs):zs L t<=L.length:=zwK _ _
theorem zdx {a b:Bs}:ltB a b=true ↔ a<b:=by unfold ltB;simp
theorem zcr (j:Nat) (h:j<zs L t) (hj:j<L.length):L[j].1<t:=zdx.1 (zwJ (fun p:Atr=>ltB p.1 t) L j h hj)
theorem zc3 (h:zs L t<L.length):¬ L[zs L t].1<t:=by
 intro aj
 have h1:=zwL (fun p:Atr=>ltB p.1 t) L h
 have h2:=zdx.2 aj
 simp only [zs] at h2
 exact Bool.false_ne_true (h1.symm.trans h2)
def zdy (L:List Atr):Prop:=L.Pairwise (fun p q=>p.1<q.1)
theorem zeI (h:zdy L) (i j:Nat) (hi:i<L.length) (hj:j<L.length) (oA:i<j):L[i].1<L[j].1:=List.pairwise_iff_getElem.1 h i j hi hj oA
theorem zjy (a b:Bs) (h:¬ a<b) (aH:a≠b):b<a:=by
 rcases Decidable.em (b<a) with h2 | h2
 ·exact h2
 exact absurd (List.le_antisymm (List.not_lt.1 h2) (List.not_lt.1 h)) aH
theorem zwU (hr:zdy L) (t:Bs) (vs:List (Bs)) (p:Atr) :
  p∈zZ L t vs ↔ (p∈L/\p.1≠t)\/(p=(t,vs.foldl zn (zaF L t))/\p.2≠[]):=by
 have kF:p∈(if vs.foldl zn (zaF L t)=[] then [] else [(t,vs.foldl zn (zaF L t))]) ↔ (p=(t,vs.foldl zn (zaF L t))/\p.2≠[]):=by
  split
  ·rename_i h
   simp only [List.not_mem_nil,false_iff,not_and]
   rintro rfl
   simp [h]
  rename_i h
  simp only [List.mem_singleton]
  constructor
  ·rintro rfl
   exact ⟨rfl,h⟩
  exact fun h=>h.1
 have A6:p∈L.take (zs L t) ↔ p∈L/\p.1<t:=by
  rw [List.mem_take_iff_getElem,List.mem_iff_getElem]
  constructor
  ·rintro ⟨j,hj,rfl⟩
   have h1:j<L.length:=by omega
   exact ⟨⟨j,h1,rfl⟩,zcr j Om h1⟩
  rintro ⟨⟨j,hj,rfl⟩,aj⟩
  refine ⟨j,?_,rfl⟩
  rcases Nat.lt_or_ge j (zs L t) with h | h
  ·omega
  exfalso
  have hk:zs L t<L.length:=by omega
  rcases Nat.lt_or_ge (zs L t) j with h2 | h2
  ·exact zc3 hk (List.lt_trans (zeI hr _ _ hk hj h2) aj)
  have:j=zs L t:=by omega
  subst this
  exact zc3 hk aj
 have fI:p∈zcq L t ↔ p∈L/\t<p.1:=by
  unfold zcq
  have AY:∀ j (hj:j<L.length),zs L t<=j->L[j].1≠t->t<L[j].1:=by
   intro j hj Mz aH
   refine zjy _ _ ?_ aH
   rcases Nat.lt_or_ge (zs L t) j with h2 | h2
   ·have hk:zs L t<L.length:=by omega
    exact fun h=>zc3 hk (List.lt_trans (zeI hr _ _ hk hj h2) h)
   have:j=zs L t:=by omega
   subst this
   exact zc3 hj
  split
  ·rename_i hk
   split
   ·rename_i he
    rw [List.mem_drop_iff_getElem,List.mem_iff_getElem]
    constructor
    ·rintro ⟨j,hj,rfl⟩
     refine ⟨⟨_,_,rfl⟩,?_⟩
     exact zob
    rintro ⟨⟨j,hj,rfl⟩,aj⟩
    have:zs L t<j:=by
     rcases Nat.lt_trichotomy j (zs L t) with h | h | h
     ·exact absurd (List.lt_trans aj (zcr j h hj)) (List.lt_irrefl _)
     ·subst h;rw [he] at aj;exact absurd aj (List.lt_irrefl _)
     exact h
    exact ⟨j - (zs L t+1),by omega,by congr 1;omega⟩
   rename_i he
   rw [List.mem_drop_iff_getElem,List.mem_iff_getElem]
   constructor
   ·rintro ⟨j,hj,rfl⟩
    refine ⟨⟨_,_,rfl⟩,AY _ Om Om ?_⟩
    intro e
    cases j with
    | zero=>exact he e
    | succ j =>
     have h1:=zeI hr (zs L t) (zs L t+(j+1)) hk Om Om
     rw [e] at h1
     exact zc3 hk h1
   rintro ⟨⟨j,hj,rfl⟩,aj⟩
   have:zs L t<=j:=by
    rcases Nat.lt_or_ge j (zs L t) with h | h
    ·exact absurd (List.lt_trans aj (zcr j h hj)) (List.lt_irrefl _)
    exact h
   exact ⟨j - zs L t,by omega,by congr 1;omega⟩
  rename_i hk
  simp only [List.not_mem_nil,false_iff,not_and]
  intro hp aj
  obtain ⟨j,hj,rfl⟩:=List.mem_iff_getElem.1 hp
  exact absurd (List.lt_trans aj (zcr j (by have:=zoh L t;omega) hj)) (List.lt_irrefl _)
 unfold zZ
 rw [List.mem_append,List.mem_append,kF,A6,fI]
 constructor
 ·rintro (⟨h1,h2⟩ | h | ⟨h1,h2⟩)
  ·exact .inl ⟨h1,fun e=>by rw [e] at h2;exact absurd h2 (List.lt_irrefl _)⟩
  ·exact .inr h
  exact .inl ⟨h1,fun e=>by rw [e] at h2;exact absurd h2 (List.lt_irrefl _)⟩
 rintro (⟨h1,h2⟩ | h)
 ·rcases Decidable.em (p.1<t) with h3 | h3
  ·exact .inl ⟨h1,h3⟩
  exact .inr (.inr ⟨h1,zjy _ _ h3 h2⟩)
 exact .inr (.inl h)
theorem zwV (h:p∈L.take (zs L t)):p.1<t:=by
 rw [List.mem_take_iff_getElem] at h
 obtain ⟨j,hj,rfl⟩:=h
 exact zcr j Om Om
theorem zoi (hr:zdy L) {t:Bs} {p:Atr} (h:p∈zcq L t):t<p.1:=by
 unfold zcq at h
 split at h
 ·rename_i hk
  split at h
  ·rename_i he
   obtain ⟨j,hj,rfl⟩:=List.mem_drop_iff_getElem.1 h
   exact zob
  rename_i he
  obtain ⟨j,hj,rfl⟩:=List.mem_drop_iff_getElem.1 h
  have h0:=zjy _ _ (zc3 hk) he
  cases j with
  | zero=>exact h0
  | succ j=>exact List.lt_trans h0 (zeI hr (zs L t) (zs L t+(j+1)) hk Om Om)
 simp at h
theorem zwW (hr:zdy L) (t:Bs) (vs:List (Bs)):zdy (zZ L t vs):=by
 have hR:zdy (zcq L t):=by
  unfold zcq
  split
  ·split
   ·exact List.Pairwise.sublist (List.drop_sublist _ _) hr
   exact List.Pairwise.sublist (List.drop_sublist _ _) hr
  exact List.Pairwise.nil
 have hT:zdy (L.take (zs L t)):=List.Pairwise.sublist (List.take_sublist _ _) hr
 unfold zZ zdy
 rw [List.pairwise_append]
 refine ⟨hT,?_,?_⟩
 ·split
  ·exact hR
  rw [List.singleton_append,List.pairwise_cons]
  exact ⟨fun q hq=>zoi hr hq,hR⟩
 intro p hp q hq
 have h1:=zwV hp
 rcases List.mem_append.1 hq with h | h
 ·split at h
  ·simp at h
  rw [List.mem_singleton] at h;subst h;exact h1
 exact List.lt_trans h1 (zoi hr h)
theorem zwX (t:Bs):zaF (clA A) t=onL (vaL A t):=by
 have bG:=zbX A
 unfold zaF
 split
 ·rename_i hk
  split
  ·rename_i he
   have:=((bG.2 _).1 (List.getElem_mem hk)).1
   rw [he] at this
   exact this
  rename_i he
  refine (zdw.2 ?_).symm
  by_cases e:vaL A t=[]
  ·exact e
  exfalso
  have hm:(t,onL (vaL A t))∈clA A:=(bG.2 _).2 ⟨rfl,fun h=>e (zdw.1 h)⟩
  obtain ⟨j,hj,ej⟩:=List.mem_iff_getElem.1 hm
  have Cx:(clA A)[j].1=t:=by rw [ej]
  rcases Nat.lt_trichotomy j (zs (clA A) t) with h | h | h
  ·have:=zcr j h hj
   rw [Cx] at this
   exact absurd this (List.lt_irrefl _)
  ·subst h;exact he Cx
  have h1:=zeI bG.1 _ _ hk hj h
  rw [Cx] at h1
  exact zc3 hk h1
 rename_i hk
 refine (zdw.2 ?_).symm
 by_cases e:vaL A t=[]
 ·exact e
 exfalso
 have hm:(t,onL (vaL A t))∈clA A:=(bG.2 _).2 ⟨rfl,fun h=>e (zdw.1 h)⟩
 obtain ⟨j,hj,ej⟩:=List.mem_iff_getElem.1 hm
 have Cx:(clA A)[j].1=t:=by rw [ej]
 have aj:j<zs (clA A) t:=by omega
 have:=zcr j aj hj
 rw [Cx] at this
 exact absurd this (List.lt_irrefl _)
theorem zoj (A:List Atr) (s:Bs) (vs:List (Bs)):zZ (clA A) (za s) vs=clA (A++[(s,vs)]):=by
 have bG:=zbX A
 refine zjw ⟨zwW bG.1 _ _,fun p=>?_⟩
 rw [zwU bG.1,zwX,<- zwM,bG.2]
 rw [zog]
 by_cases e:p.1=za s
 ·have e1:vaL [(s,vs)] p.1=vs:=by unfold vaL;simp [e]
  rw [e1]
  constructor
  ·rintro (⟨_,h⟩ | ⟨h,h2⟩)
   ·exact absurd e h
   exact ⟨by rw [h],h2⟩
  rintro ⟨h1,h2⟩
  refine .inr ⟨Prod.ext e ?_,h2⟩
  rw [h1,e]
 have e1:vaL [(s,vs)] p.1=[]:=by
  unfold vaL
  have:(za s==p.1)=false:=by simpa using fun h=>e h.symm
  simp [this]
 rw [e1,List.append_nil]
 constructor
 ·rintro (⟨h,_⟩ | ⟨h,_⟩)
  ·exact h
  exact absurd (by rw [h]) e
 intro h
 exact .inl ⟨h,e⟩
theorem zok:clA []=[]:=by unfold clA zeH onL zdY;simp
theorem zwY (i:Nat) (hi:i<A.length):clA (A.take (i+1))=zZ (clA (A.take i)) (za A[i].1) A[i].2:=by
 rw [zoj,List.take_succ_eq_append_getElem hi]
end Go.Proofs.YtijglbolppkefaaGreatDoor
