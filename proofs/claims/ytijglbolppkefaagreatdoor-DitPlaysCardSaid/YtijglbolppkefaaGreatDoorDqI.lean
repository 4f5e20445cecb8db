/- Two texts compared; two pairs. -/
import Derived.Test.YtijglbolppkefaaGreatDoorMDqA
import Derived.Test.YtijglbolppkefaaGreatDoorDqG
import Derived.Test.YtijglbolppkefaaGreatDoorMLayw
import Derived.Sort.Grow
import Derived.Shelf.SlSortCmp.SmallK
import Derived.Test.YtijglbolppkefaaGreatDoorDqC
set_option linter.unusedVariables false
set_option linter.unusedSimpArgs false
set_option maxHeartbeats 25600000
set_option maxRecDepth 100000
namespace Go.Proofs.YtijglbolppkefaaGreatDoor
open Go.Proofs.Tryz
open Go Go.RowKit Go.Proofs.BerK Go.Proofs.MemK Go.Proofs.UtfK
theorem zp4 {p:Prop} (h:p:=by
 rw [List.getElem?_eq_getElem h',List.getElem?_eq_getElem h] at e
 exact Option.some.inj e):p:=h
def zhF (a b:ByteArray):Int:=if Op.bytesLess a.toList b.toList=true then -1 else if (a.toList==b.toList)=true then 0 else 1
def zbZ (x y:Av):Int:=zhF ⟨x.1.toArray⟩ ⟨y.1.toArray⟩
def zcL (p:Av):List Value:=[.string ⟨p.1.toArray⟩,.string ⟨p.2.toArray⟩]
theorem zAD (a:ByteArray) (w:World):Calls prog 186 #[.string a] w fun e w'=>e=.returned (.bool false)/\w'=w:=by
 go_enter func186,ntmps186
 go_wp2
 go_ret
 exact ⟨by simp,rfl⟩
theorem zAE (a b:ByteArray) (w:World):Calls prog 162 #[.string a,.string b] w fun e w'=>e=.returned (.int .i64 (zhF a b))/\w'=w:=by
 have hn:=fun x W=>zAD x W
 unfold zhF
 cases h1:Op.bytesLess a.toList b.toList <;> cases h2:(a.toList==b.toList) <;>
 ·have h3:(!(a.toList==b.toList))=_:=congrArg not h2
  simp only [Bool.not_false,Bool.not_true] at h3
  go_enter func162,ntmps162
  go_wp2_with (go_at_call 186;refine (hn _ _).mono ?_;rintro e w' ⟨rfl,rfl⟩)
  go_ret
  exact ⟨rfl,rfl⟩
theorem zAF (x y:Av) (W:World):Calls prog 161 #[.agg #[.string ⟨x.1.toArray⟩,.string ⟨x.2.toArray⟩],.agg #[.string ⟨y.1.toArray⟩,.string ⟨y.2.toArray⟩]] W fun e w'=>e=.returned (.int .i64 (zbZ x y))/\∃ q os',w'=Go.Sort.grow (W.drewN q) os':=by
 have cK:=fun W'=>zAE ⟨x.1.toArray⟩ ⟨y.1.toArray⟩ W'
 change ∀ W',Calls prog _ _ W' fun e w'=>e=.returned (.int .i64 (zbZ x y))/\w'=W' at cK
 generalize zbZ x y=r at cK ⊢
 go_enter func161,ntmps161
 go_wp2_with (go_at_call 162;refine (cK _).mono ?_;rintro e w' ⟨rfl,rfl⟩)
 go_ret
 exact ⟨rfl,0,_,by rw [Go.Sort.alloc_eq_grow,Go.Sort.alloc_eq_grow,Go.Sort.grow_grow];rfl⟩
theorem zAG (n:Nat) (W:World) (h:n<=12):Calls prog 148 #[.int .u64 n] W fun e w'=>(∃ l:Int,e=.returned (.int .i64 l))/\w'=W :=
 (Any.bits_Len Tryz.bitsLen6 n W Om Om).mono fun _ _ ⟨he,hw⟩=>⟨⟨_,he⟩,hw⟩
end Go.Proofs.YtijglbolppkefaaGreatDoor
namespace Go.Proofs.YtijglbolppkefaaGreatDoor
open Go.Proofs.Tryz
open Go Go.RowKit Go.Proofs.BerK Go.Proofs.MemK Go.Proofs.UtfK
open Go.Sort hiding Below
open Go.Proofs.BerK
variable {w : World} {b : Nat} {F : Array Value}
theorem zqi (r:List Av):flatK zcL 2 r.toArray=(avc r).toArray:=by
 apply Array.ext_getElem?
 intro t
 by_cases ht:t<r.length*2
 ·have h1:t<(flatK zcL 2 r.toArray).size:=by rw [size_flatK];simpa using ht
  have aj:t/2<r.length:=by omega
  have h2:=get_flatK zcL 2 r.toArray t (by simpa using ht)
  rw [getElem!_pos (flatK zcL 2 r.toArray) t h1] at h2
  rw [Array.getElem?_eq_getElem h1,h2,List.getElem?_toArray]
  have e:(r.toArray)[t/2]! = r[t/2]:=by
   rw [getElem!_pos r.toArray (t/2) (by simpa using aj)];simp
  rw [e]
  obtain ⟨a1,a2⟩:=zbO r (t/2) aj
  rcases (show t%2=0\/t%2=1 by omega) with h | h
  ·rw [show t/2*2=t by omega] at a1
   rw [a1,h];rfl
  rw [show t/2*2+1=t by omega] at a2
  rw [a2,h];rfl
 rw [Array.getElem?_eq_none (by rw [size_flatK];simpa using ht),List.getElem?_toArray,List.getElem?_eq_none (by rw [zcj];omega)]
def zb0 (r:List Av):List Av:=(Go.Sort.insertionSort (ltOf zbZ) r.toArray 0 r.length).toList
theorem zqj {α:Type} [Inhabited α] (lt:α->α->Bool) (a:Nat):∀ (j:Nat) (d:Array α),(insInner lt a j d).size=d.size
 | 0,d=>rfl
 | j+1,d=>by
  rw [insInner]
  split
  ·rw [zqj lt a j,size_swp]
  rfl
theorem zAH {α:Type} [Inhabited α] (lt:α->α->Bool) (a b:Nat):∀ (n i:Nat) (d:Array α),b - i=n->(insOuter lt a b i d).size=d.size:=by
 intro n
 induction n with
 | zero=>intro i d h;rw [insOuter,if_neg Om]
 | succ n ih=>intro i d h;rw [insOuter,if_pos Om,ih (i+1) _ Om,zqj]
theorem zAI (r:List Av):(zb0 r).length=r.length:=by
 unfold zb0 Go.Sort.insertionSort
 rw [Array.length_toList,zAH _ _ _ _ _ _ rfl];simp
theorem zAJ {c:Array Value} {e:TypeId} {fr:Nat × Nat} (h:w.heap[b]?=some (.cells c e fr)) (hs:F.size=c.size):(putRow id w b 0 F).heap[b]?=some (.cells F e fr):=by
 have hF:putCells id 0 F c=F:=by
  apply Array.ext_getElem?
  intro t
  unfold putCells
  rw [Array.getElem?_mapIdx]
  by_cases ht:t<c.size
  ·rw [Array.getElem?_eq_getElem ht,Option.map_some,if_pos ⟨Nat.zero_le _,by omega⟩,Array.getElem?_eq_getElem (by omega:t<F.size)]
   simp only [id,Nat.sub_zero]
   rw [getElem!_pos F t Om]
  rw [Array.getElem?_eq_none Om,Array.getElem?_eq_none (by omega:F.size<=t)];rfl
 unfold putRow mapBlock
 simp [Array.getElem?_modify,h,onCells,hF]
theorem zAK (k:Nat) (hk:k≠b):(putRow id w b 0 F).heap[k]? = w.heap[k]? := by
 unfold putRow mapBlock
 simp [Array.getElem?_modify,Ne.symm hk]
theorem zAL {B g:Nat} {gs:List Nat} {D:List (List Av)} {m:Nat} {e1 e2:TypeId} (h:zas w B g gs D m e1 e2) (k:Nat) (hk:k<gs.length) (eV:k<D.length) (r:List Av) (hr:r.length=D[k].length) (n:Nat) (os:Array Obj) :
  zas (sortWorldK zcL 2 w gs[k] 0 n r.toArray os) B g gs (D.set k r) m e1 e2/\Go.RowKit.Below B w (sortWorldK zcL 2 w gs[k] 0 n r.toArray os):=by
 obtain ⟨a,b,c⟩:=h.rows k hk eV
 have jJ:∀ j,j<w.heap.size->(sortWorldK zcL 2 w gs[k] 0 n r.toArray os).heap[j]? = (putRow id (Go.Sort.ahead w n) gs[k] 0 (avc r).toArray).heap[j]? := by
  intro j hj
  unfold sortWorldK putRowK
  rw [heap_grow_old _ _ (by simpa using hj),zqi]
 have vp:∀ j,j<w.heap.size->j≠gs[k]->(sortWorldK zcL 2 w gs[k] 0 n r.toArray os).heap[j]? = w.heap[j]? := fun j hj aH=>by
  rw [jJ j hj,zAK j aH];rfl
 refine ⟨⟨h.base,by simp [h.len],?_,?_,h.nodup⟩,?_⟩
 ·rw [zlS gs D k _ eV hr,vp g (zi h.outer) (fun e=>b e.symm)];exact h.outer
 ·intro i hi cG
  have jd:i<D.length:=by simpa using cG
  obtain ⟨a',b',c'⟩:=h.rows i hi jd
  refine ⟨a',b',?_⟩
  by_cases kG:i=k
  ·subst kG
   have e:(D.set i r)[i]'cG=r:=by simp
   rw [e,jJ _ (zi c')]
   exact zAJ (w:=Go.Sort.ahead w n) c' (by rw [List.size_toArray,List.size_toArray,zcj,zcj,hr])
  have e:(D.set k r)[i]'cG=D[i]:=List.getElem_set_ne (fun e=>kG e.symm) _
  have aH:gs[i]≠gs[k]:=fun e=>kG ((List.getElem_inj h.nodup).1 e)
  rw [e,vp _ (zi c') aH];exact c'
 have bh:=zi c
 refine ⟨rfl,rfl,rfl,?_,fun j hj=>?_⟩
 ·unfold sortWorldK putRowK;simp
 exact vp j Om Om
theorem zAM (q:Nat) (h:q<=12):IntKind.u64.wrap (q:Int)=(q:Int):=by simp [IntKind.wrap,IntKind.signed,IntKind.bits];omega
theorem zAN (w:World) {B g:Nat} {gs:List Nat} {D:List (List Av)} {m:Nat} {e1 e2:TypeId} (h:zas w B g gs D m e1 e2) (k:Nat) (hk:k<gs.length) (eV:k<D.length) (Nk:D[k].length<=12) :
  Calls prog 160 #[zaH gs[k] D[k].length,.func (.func 161) #[] #[]] w fun e w'=>e=.returned (.tuple #[])/\zas w' B g gs (D.set k (zb0 D[k])) m e1 e2/\Go.RowKit.Below B w w':=by
 have eg:∀ args w,(callFunc 161 args).run prog w=.ok (.enter 161 args) w:=enters_of func161 Kr rfl
 obtain ⟨a,b,c⟩:=h.rows k hk eV
 have hH:HoldsK zcL 2 w gs[k] 0 D[k].toArray:=by
  intro j hj
  rw [zqi] at hj ⊢
  have uE:j<(avc D[k]).length:=by simpa using hj
  refine ⟨?_,?_⟩
  ·rw [Nat.zero_add]
   refine zq c j _ ?_
   rw [Array.getElem?_eq_getElem hj,getElem!_pos _ j hj];rfl
  rw [Nat.zero_add];exact zc c j
 have cK:=fun lim=>AnyQ.pdqsortCmpFunc_small Tryz.sortRow6 2 Tryz.isAgg144 Tryz.sizeOf144 zcL (fun _=>rfl) (fun x v hv=>by simp [zcL] at hv;rcases hv with rfl | rfl <;> rfl) zbZ 161 #[] gs[k] 0 D[k].length 0 D[k].toArray.size lim D[k].toArray w eg (fun _ _ _ _ x y=>zAF x y _) hH (zi c) (Nat.zero_le _) Lr (by rw [List.size_toArray];omega) (by rw [List.size_toArray];omega)
 change ∀ lim:Int,Calls prog 185 #[.slice (some ⟨gs[k],0,none⟩) D[k].length D[k].length,.int .i64 0,.int .i64 (D[k].length:Nat),.int .i64 lim,.func (.func 161) #[] #[]] w _ at cK
 have HC:=Hy cK
 have aF:=zAG D[k].length w Nk
 have HL:=Hy aF
 have HD:=Hy h
 have hlw:IntKind.u64.wrap (D[k].length:Int)=(D[k].length:Int):=zAM _ Nk
 unfold zaH
 clear cK aF hH a b c eg h
 go_enter func160,ntmps160
 go_wp2_with (first | (go_at_call 148;refine HL.o.mono ?_;rintro e w' ⟨⟨l,rfl⟩,rfl⟩) | (go_at_call 185;refine (HC.o _).mono ?_;rintro e w' ⟨rfl,n,os,rfl⟩))
 go_end0
 refine ⟨rfl,?_⟩
 have:=zAL HD.o k hk eV (zb0 D[k]) (zAI _) n os
 have e:(zb0 D[k]).toArray=Go.Sort.insertionSort (ltOf zbZ) D[k].toArray 0 D[k].toArray.size:=by unfold zb0;rw [List.size_toArray,Array.toArray_toList]
 rw [e] at this
 exact this
end Go.Proofs.YtijglbolppkefaaGreatDoor
namespace Go.Proofs.YtijglbolppkefaaGreatDoor
open Go.Proofs.Tryz
open Go Go.RowKit Go.Proofs.BerK Go.Proofs.MemK Go.Proofs.UtfK
variable {s : Bs} {D : List (List Av)} {w : World}
def nmA (p:Av):Av:=(za p.1,zah p.2)
def nmR (r:List Av):List Av:=zb0 (r.map nmA)
def noD (s:Bs):Bs × Nat:=if (rdD s).2≠0 then ([],(rdD s).2) else puD ((rdD s).1.map nmR)
theorem zqk {n:Nat} (h:rdD s=(D,n)) (hn:n≠0):noD s=([],n):=by unfold noD;rw [h];exact if_pos hn
theorem zhG (h:rdD s=(D,0)):noD s=puD (D.map nmR):=by unfold noD;rw [h];exact if_neg Sm
theorem zkl (h:rdD s=(D,0)):D.length<=32/\∀ r∈D,prL r=true:=by
 unfold rdD at h
 split at h
 ·cases h
 split at h
 ·cases h;exact ⟨by simp,by simp⟩
 split at h
 ·cases h
 split at h
 ·cases h
 split at h
 ·rename_i h5;injection h with _ h2;exact absurd h2 h5
 rename_i h5;injection h with h1 _;subst h1;exact zf4 Om
def nmT (D:List (List Av)) (i:Nat):List (List Av):=(D.take i).map nmR++D.drop i
theorem zAO (D:List (List Av)):nmT D 0=D:=by simp [nmT]
theorem zAP (D:List (List Av)) (i:Nat):(nmT D i).length=D.length:=by simp [nmT];omega
theorem zAQ (D:List (List Av)) (i:Nat) (h:D.length<=i):nmT D i=D.map nmR:=by simp [nmT,List.take_of_length_le h,List.drop_of_length_le h]
theorem zAR (D:List (List Av)) (i:Nat) (h:i<D.length) (h':i<(nmT D i).length):(nmT D i)[i]=D[i]:=by
 have e:(nmT D i)[i]? = D[i]? := by
  unfold nmT
  rw [List.getElem?_append_right So]
  simp [show min i D.length=i by omega]
 exact zp4
theorem zAS (D:List (List Av)) (i:Nat) (h:i<D.length):(nmT D i).set i (nmR D[i])=nmT D (i+1):=by
 have e:i - ((D.take i).map nmR).length=0:=by simp;omega
 unfold nmT
 rw [List.set_append_right _ _ So,List.take_succ_eq_append_getElem h,List.map_append,e,zO D i h,List.set_cons_zero,List.append_assoc]
 rfl
def nmJ (r:List Av) (j:Nat):List Av:=(r.take j).map nmA++r.drop j
theorem zAT (r:List Av):nmJ r 0=r:=by simp [nmJ]
theorem zql (r:List Av) (i:Nat):(nmJ r i).length=r.length:=by simp [nmJ];omega
theorem zAU (r:List Av) (i:Nat) (h:r.length<=i):nmJ r i=r.map nmA:=by simp [nmJ,List.take_of_length_le h,List.drop_of_length_le h]
theorem zAV (r:List Av) (i:Nat) (h:i<r.length) (h':i<(nmJ r i).length):(nmJ r i)[i]=r[i]:=by
 have e:(nmJ r i)[i]? = r[i]? := by
  unfold nmJ
  rw [List.getElem?_append_right So]
  simp [show min i r.length=i by omega]
 exact zp4
theorem zAW (r:List Av) (i:Nat) (h:i<r.length):(nmJ r i).set i (nmA r[i])=nmJ r (i+1):=by
 have e:i - ((r.take i).map nmA).length=0:=by simp;omega
 unfold nmJ
 rw [List.set_append_right _ _ So,List.take_succ_eq_append_getElem h,List.map_append,e,zO r i h,List.set_cons_zero,List.append_assoc]
 rfl
theorem zhH {B g:Nat} {gs:List Nat} {D':List (List Av)} {m:Nat} {e1 e2:TypeId} (h:zas w B g gs D m e1 e2) (e:D=D'):zas w B g gs D' m e1 e2:=e ▸ h
theorem zfT (w:World):zb9 w (.slice none 0 0) []:=⟨_,_,rfl,Nat.le_refl _,fun i h=>by simp at h⟩
theorem zc6 {a b:Nat} (h:a≠b) (i j k:Nat) (u v:Value):((w.setCell ⟨b,i,none⟩ u).setCell ⟨b,j,none⟩ v).cell? ⟨a,k,none⟩=w.cell? ⟨a,k,none⟩ :=
 World.cell?_of_block (w:=w) (a:=⟨a,k,none⟩) ((Below.heap_setCell _ ⟨b,j,none⟩ v a h).trans (Below.heap_setCell w ⟨b,i,none⟩ u a h))
theorem zqm (s:ByteArray) (w:World) (he:zD w) :
  Calls prog 131 #[.string s] w (zdo (noD s.data.toList) w):=by
 have HR:=Hy (zlX s w he)
 have HE:=Hy (fun D n h=>zqk (s:=s.data.toList) (D:=D) (n:=n) h)
 have HO:=Hy (fun D h=>zhG (s:=s.data.toList) (D:=D) h)
 have HQ:=Hy (fun D h=>zkl (s:=s.data.toList) (D:=D) h)
 obtain ⟨P,hP⟩:=Ex (rdD s.data.toList)
 rw [hP] at HR HE HO HQ
 clear hP he
 obtain ⟨D,n⟩:=P
 go_enter func131,ntmps131
 go_wp2_with fail
 refine HR.o.mono ?_
 rintro e w2 (⟨h1,rfl,hb⟩ | ⟨h2,g,gs,rfl,hd,hb⟩)
 ·by_cases hn:n=0
  ·subst hn
   have Hj:D=[]:=h1
   subst Hj
   have H:=Hy (An (HO.o _ rfl) hb)
   have HC:=Hy (zlj (.slice none 0 0) [] w2 (zfT w2))
   clear hb h1
   obtain ⟨pq,ir⟩:=Ex (puD [])
   rw [List.map_nil,ir] at H
   rw [ir] at HC
   clear ir
   obtain ⟨X,m⟩:=pq
   go_wp2
   go_loopw [20] (fun v wr=>v=.int .i64 0/\wr=w2) (fun _ _=>0)
   case atStart=>exact ⟨rfl,rfl⟩
   case round =>
    obtain ⟨rfl,rfl⟩:=hrel
    go_wp2_with fail
    refine HC.o.mono ?_
    rintro e w3 ⟨rfl,aK⟩
    have HB:=Hy (H.o.2.trans (aK.mono H.o.2.size))
    clear aK
    go_wp2
    go_ret2
    exact zc8 H.o.1 HB.o
  have hq:((n:Int) != 0)=true:=by simp;omega
  have H:=Hy (An (HE.o _ _ rfl hn) hb)
  clear hn hb h1
  go_wp2
  go_ret2
  exact zc8 H.o.1 H.o.2
 have h2':n=0:=h2
 subst h2'
 obtain ⟨q1,q2⟩:=HQ.o D rfl
 have H:=Hy (An (HO.o _ rfl) (An hb (An hd q2)))
 clear hb hd q2 h2
 obtain ⟨N,hN⟩:=Ex D.length
 unfold zaH
 rw [hN] at q1 ⊢
 go_wp2
 go_loopw [20] (fun v wr=>∃ i:Nat,i<=N/\v=.int .i64 (i:Nat)/\zas wr w.heap.size g gs (nmT D i) 0 144 140/\Below w.heap.size w wr) (fun v _=>N - (intOf v).toNat)
 case atStart=>exact ⟨0,Nat.zero_le _,rfl,zhH H.o.2.2.1 (zAO D).symm,H.o.2.1⟩
 case round =>
  obtain ⟨i,hi,rfl,aG,hb⟩:=hrel
  by_cases aj:i<N
  ·have cW:(i:Int)<(N:Int):=by omega
   have jU:i<(nmT D i).length:=by rw [zAP];omega
   have pX:i<gs.length:=by rw [aG.len];exact jU
   have Jb:(nmT D i)[i]=D[i]'Om:=zAR D i Om jU
   obtain ⟨r,hr⟩:=Ex (D[i]'Om)
   have wt:=H.o.2.2.2 r (by rw [<- hr];exact List.getElem_mem _)
   obtain ⟨p1,p2,p3⟩:=zcv wt
   have aA:=(aG.rows i pX jU)
   have r6:=zij gs (nmT D i) i pX jU
   have pA:=zAS D i Om
   rw [Jb,hr] at aA r6
   rw [hr] at pA
   obtain ⟨gi,Es⟩:=Ex (gs[i])
   rw [Es] at aA r6
   have c1:wr.cell? ⟨g,i,none⟩=some (.slice (some ⟨gi,0,none⟩) r.length r.length):=by
    refine zq aG.outer i _ ?_
    have aF:=zf8 gs (nmT D i) aG.len
    simp only [List.getElem?_toArray]
    rw [List.getElem?_append_left (by rw [aF];exact jU)]
    exact r6
   obtain ⟨k,hk⟩:=Ex r.length
   rw [hk] at c1 p2
   have HA:=Hy (An aG (An hb (An Jb (An pA (An Es (An p3 (An hk hr)))))))
   clear aG hb Jb pA r6 p3 wt aA p1
   go_wp2
   go_loopw [26] (fun v wr=>∃ j:Nat,j<=k/\v=.int .i64 (j:Nat)/\zas wr w.heap.size g gs ((nmT D i).set i (nmJ r j)) 0 144 140/\Below w.heap.size w wr) (fun v _=>k - (intOf v).toNat)
   case atStart =>
    refine ⟨0,Nat.zero_le _,rfl,zhH HA.o.1 ?_,HA.o.2.1⟩
    rw [zAT,<- HA.o.2.2.2.2.2.2.2,<- HA.o.2.2.1,List.set_getElem_self]
   case round =>
    obtain ⟨j,hj,rfl,aG,hb⟩:=hrel
    by_cases n9:j<k
    ·have fB:(j:Int)<(k:Int):=by omega
     have oO:j<r.length:=by have:=HA.o.2.2.2.2.2.2.1;omega
     have C7:i<((nmT D i).set i (nmJ r j)).length:=by simpa using jU
     have vr:((nmT D i).set i (nmJ r j))[i]'C7=nmJ r j:=by simp
     have aA:=(aG.rows i pX C7)
     rw [vr,HA.o.2.2.2.2.1] at aA
     have Jc:j<(nmJ r j).length:=by rw [zql];exact oO
     have C8:=zAV r j oO Jc
     have iO:=zAW r j oO
     have aS:=zeh (HA.o.2.2.2.2.2.1 _ (List.getElem_mem oO))
     have a1:=zq aA.2.2 (j*2) _ (by simpa using (zbO (nmJ r j) j Jc).1)
     have a2:=zq aA.2.2 (j*2+1) _ (by simpa using (zbO (nmJ r j) j Jc).2)
     have a3:=zc aA.2.2 (j*2)
     have a4:=zc aA.2.2 (j*2+1)
     rw [C8] at a1 a2
     have bZ:=zi aA.2.2
     have wD:=aA.1
     obtain ⟨p,hp⟩:=Ex (r[j])
     rw [hp] at a1 a2 aS iO
     obtain ⟨T,V⟩:=p
     have cV:=Hy (fun w=>show Calls prog 72 #[.string ⟨T.toArray⟩] w (zG (za T) w) from zco ⟨T.toArray⟩ w)
     have ox:=Hy (fun w=>show Calls prog 159 #[.string ⟨V.toArray⟩] w (zG (zah V) w) from zvJ ⟨V.toArray⟩ w (by show V.length+1<=_;have:=aS.2.2.1;simp at this;omega))
     change nmJ r j |>.set j (za T,zah V) |> fun z=>z=_ at iO
     obtain ⟨LT,Bd⟩:=Ex (za T)
     obtain ⟨FV,fE⟩:=Ex (zah V)
     rw [Bd] at cV iO
     rw [fE] at ox iO
     have HB:=Hy (An aG (An hb (An iO (An vr (An wD C7)))))
     clear aG hb aA C8 iO aS hp vr wD Bd fE
     go_wp2
     obtain ⟨W2,aL⟩:=Ex (wr.alloc (.cells #[.string ⟨T.toArray⟩,.string ⟨V.toArray⟩] 144))
     have ak:=Nb aL
     have aw:=Nw aL
     obtain ⟨d1,d2⟩:=zao aw
     have jD:=zi aw
     have b1:=(ak.cell (p:=⟨gi,j*2,none⟩) bZ).trans a1
     have b2:=(ak.cell (p:=⟨gi,j*2+1,none⟩) bZ).trans a2
     have b3:=(ak.frozen (p:=⟨gi,j*2,none⟩) bZ).trans a3
     have b4:=(ak.frozen (p:=⟨gi,j*2+1,none⟩) bZ).trans a4
     have jV:gi<W2.heap.size:=Nat.lt_of_lt_of_le bZ ak.size
     have bw:=Hy ak
     obtain ⟨bx,aD⟩:=Ex wr.heap.size
     rw [aL]
     rw [aD] at d1 d2 jD ⊢
     have aH:bx≠gi:=by omega
     clear a1 a2 a3 a4 ak aw aL aD bZ
     go_region_held3 (fun w'=>w'.cell? ⟨bx,0,none⟩=some (.string ⟨T.toArray⟩)/\w'.cell? ⟨bx,1,none⟩=some (.string ⟨V.toArray⟩)) (first | exact ⟨e0,e1⟩ | exact ⟨d1,d2⟩ | exact ⟨(zc6 aH _ _ _ _ _).trans e0,(zc6 aH _ _ _ _ _).trans e1⟩ | go_keep)
      (first | (go_at_call 72;refine (cV.o _).mono ?_;rintro en w5 ⟨rfl,ai⟩;have ax:Below W2.heap.size W2 w5:=(by first | exact ax.trans (ai.mono ax.size) | exact (Br W2).drew.trans ai);have e0:=(ax.cell (p:=⟨bx,0,none⟩) jD).trans d1;have e1:=(ax.cell (p:=⟨bx,1,none⟩) jD).trans d2;have e2:=(ax.cell (p:=⟨gi,j*2,none⟩) jV).trans b1;have e3:=(ax.cell (p:=⟨gi,j*2+1,none⟩) jV).trans b2;have e4:=(ax.frozen (p:=⟨gi,j*2,none⟩) jV).trans b3;have e5:=(ax.frozen (p:=⟨gi,j*2+1,none⟩) jV).trans b4) | (go_at_call 159;refine (ox.o _).mono ?_;rintro en w5 ⟨rfl,ai⟩;have ax:Below W2.heap.size W2 w5:=(by first | exact ax.trans (ai.mono ax.size) | exact (Br W2).drew.trans ai);have e0:=(ax.cell (p:=⟨bx,0,none⟩) jD).trans d1;have e1:=(ax.cell (p:=⟨bx,1,none⟩) jD).trans d2;have e2:=(ax.cell (p:=⟨gi,j*2,none⟩) jV).trans b1;have e3:=(ax.cell (p:=⟨gi,j*2+1,none⟩) jV).trans b2;have e4:=(ax.frozen (p:=⟨gi,j*2,none⟩) jV).trans b3;have e5:=(ax.frozen (p:=⟨gi,j*2+1,none⟩) jV).trans b4))
     have HW:=Hy (An (zik HB.o.1 (bw.o.trans (ax.mono bw.o.size))) (HB.o.2.1.trans ((bw.o.trans (ax.mono bw.o.size)).mono HB.o.2.1.size)))
     clear e0 e1 ai ax d1 d2 b1 b2 b3 b4
     go_wp2
     have Jd:j<(((nmT D i).set i (nmJ r j))[i]'HB.o.2.2.2.2.2).length:=by rw [HB.o.2.2.2.1,zql];exact oO
     have er:=zlT HW.o.1 i pX HB.o.2.2.2.2.2 j Jd (LT,FV)
     rw [HB.o.2.2.2.1,HA.o.2.2.2.2.1,List.set_set,HB.o.2.2.1] at er
     refine ⟨⟨j+1,by omega,by go_num,er,?_⟩,by simp [intOf];omega⟩
     exact (HW.o.2.setCell (p:=⟨gi,j*2,none⟩) HB.o.2.2.2.2.1 _).setCell (p:=⟨gi,j*2+1,none⟩) HB.o.2.2.2.2.1 _
    obtain rfl:j=k:=by omega
    have vm:=HA.o.2.2.2.2.2.2.1
    have hS:=zhH aG (show _=(nmT D i).set i (r.map nmA) by rw [zAU r j Om])
    have C7:i<((nmT D i).set i (r.map nmA)).length:=by simpa using jU
    have vr:((nmT D i).set i (r.map nmA))[i]'C7=r.map nmA:=by simp
    have xd:=zAN wr hS i pX C7 (by rw [vr,List.length_map];omega)
    rw [vr,HA.o.2.2.2.2.1,List.length_map,vm,List.set_set] at xd
    have et:(nmT D i).set i (zb0 (r.map nmA))=nmT D (i+1):=HA.o.2.2.2.1
    rw [et] at xd
    have HS:=Hy xd
    unfold zaH at HS
    have HB:=Hy hb
    clear xd hS vr et aG hb vm C7
    go_wp2_with fail
    refine HS.o.mono ?_
    rintro e w3 ⟨rfl,qJ,aK⟩
    have H3:=Hy (An qJ (HB.o.trans aK))
    clear qJ aK
    go_wp2
    exact ⟨⟨i+1,by omega,by go_num,H3.o.1,H3.o.2⟩,by simp [intOf];omega⟩
  obtain rfl:i=N:=by omega
  have hS:=zhH aG (zAQ D i Om)
  have HC:=Hy (zlj (zaH g (D.map nmR).length) (D.map nmR) wr (zf9 hS))
  rw [List.length_map,hN] at HC
  unfold zaH at HC
  have HB:=Hy hb
  obtain ⟨pq,ir⟩:=Ex (puD (D.map nmR))
  rw [ir] at H HC
  clear hS aG hb ir
  obtain ⟨X,m⟩:=pq
  go_wp2_with fail
  refine HC.o.mono ?_
  rintro e w3 ⟨rfl,aK⟩
  have cx:=Hy (HB.o.trans (aK.mono HB.o.size))
  clear aK
  go_wp2
  go_ret2
  exact zc8 H.o.1 cx.o
end Go.Proofs.YtijglbolppkefaaGreatDoor
