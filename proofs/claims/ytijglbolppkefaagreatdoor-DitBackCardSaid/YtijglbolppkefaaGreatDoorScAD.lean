/- The document's in, lower, names. -/
import Derived.Test.YtijglbolppkefaaGreatDoorMLayw
import Derived.Test.YtijglbolppkefaaGreatDoorGenA
import Derived.Test.YtijglbolppkefaaGreatDoorDqC
import Derived.Test.YtijglbolppkefaaGreatDoorMDqA
import Derived.Test.YtijglbolppkefaaGreatDoorGenB
import Derived.WideShapes
set_option linter.unusedVariables false
set_option linter.unusedSimpArgs false
set_option maxHeartbeats 25600000
set_option maxRecDepth 100000
namespace Go.Proofs.YtijglbolppkefaaGreatDoor
open Go.Proofs.Tryz
open Go Go.RowKit Go.Proofs.BerK Go.Proofs.MemK Go.Proofs.UtfK
variable {l : List (Bs)} {w w' : World} {a b v : Value} {t : TypeId}
theorem zkh (l:List (Bs)) (s:Bs) (v:Value) (w:World) (h:TxR w v l) (dV:l.length<=1000000):Calls prog 84 #[v,.string ⟨s.toArray⟩] w (za1 (inL l s) w):=by
 obtain ⟨a,c,rfl,ae⟩:=h
 have HM:=Hy ae
 have HY:=Hy (zxR (l:=l) (s:=s))
 have HN:=Hy (zxS (l:=l) (s:=s))
 obtain ⟨R,hR⟩:=Ex (inL l s)
 rw [hR] at HY HN ⊢
 obtain ⟨n,hn⟩:=Ex l.length
 have HL:=Hy hn
 rw [hn] at dV ⊢
 clear ae hR hn
 go_enter func84,ntmps84
 go_wp2
 go_loop [5] (fun v=>∃ k:Nat,k<=n/\v=.int .i64 (k:Nat)/\∀ j (hj:j<l.length),j<k->(l[j]==s)=false) (fun v=>n - (intOf v).toNat)
 case atStart=>exact ⟨0,by omega,rfl,fun j _ h=>by omega⟩
 case round =>
  obtain ⟨k,hk,rfl,af⟩:=hrel
  by_cases aj:k<n
  ·have bh:(k:Int)<(n:Int):=by omega
   have aO:k<l.length:=by rw [HL.o];exact aj
   obtain ⟨g,o,rfl,hg,e1⟩:=HM.o k aO
   cases hq:(l[k]==s)
   ·have HA:=Hy (show ∀ j (hj:j<l.length),j<k+1->(l[j]==s)=false from fun j hj h=>by
     by_cases fB:j=k
     ·subst fB;exact hq
     exact af j hj Om)
    obtain ⟨m,ct⟩:=Ex (l[k])
    rw [ct] at e1 hq
    clear af ct
    go_wp2
    exact ⟨⟨k+1,by omega,by go_num,HA.o⟩,by simp [intOf];omega⟩
   have HR:=Hy (HY.o k aO hq)
   obtain ⟨m,ct⟩:=Ex (l[k])
   rw [ct] at e1 hq
   clear af ct
   go_wp2
   go_ret
   exact zag HR.o
  obtain rfl:k=n:=by omega
  have HR:=Hy (HN.o (fun j hj=>af j hj (by rw [<- HL.o];exact hj)))
  clear af
  go_wp2
  go_ret
  exact zag HR.o
theorem Tryz.scinfo9 : (prog.info? 9).map (fun i=>(i.zero,i.size,i.bytes))=some (some (.string ByteArray.empty),1,16):=by kernel_rfl
theorem zAB (k:Nat) (hk:k<l.length):sc ((l.map za).take (k+1))=sc ((l.map za).take k)++[.string ⟨(za l[k]).toArray⟩]:=by
 rw [List.take_succ_eq_append_getElem (by simpa using hk)]
 unfold sc
 rw [List.map_append];simp
def zAC (l:List (Bs)) (e:TypeId) (w:World) (en:Ending) (w':World):Prop:=∃ a c,en=.returned (.slice a l.length c)/\w'.ownsRow w.heap.size e 1 (.slice a l.length c) l.length (sc l)/\Below w.heap.size w w'
theorem zqg (l:List (Bs)) (v:Value) (w:World) (h:TxR w v l) (dV:l.length<=1000000) (hb:∀ x∈l,x.length<=140737488355328):Calls prog 120 #[v] w (zAC (l.map za) 9 w):=by
 obtain ⟨a,c,rfl,ae⟩:=h
 have HM:=Hy ae
 have uZ:=Hy hb
 have HS:=Hy (fun k hk=>zAB (l:=l) k hk)
 obtain ⟨R,hR⟩:=Ex (l.map za)
 have qo:=Hy (show R.length=l.length by rw [<- hR];simp)
 rw [hR] at HS ⊢
 obtain ⟨n,hn⟩:=Ex l.length
 have HL:=Hy hn
 rw [hn] at dV ⊢
 clear ae hR hn hb
 go_enter func120,ntmps120
 go_wp2
 go_loopw [3,4] (fun o v wr=>∃ k:Nat,k<=n/\v=.int .i64 (k:Nat)/\wr.ownsRow w.heap.size 9 1 o k (sc (R.take k))/\Below w.heap.size w wr) (fun _ v _=>n - (intOf v).toNat)
 case atStart=>exact ⟨0,by omega,rfl,World.ownsRow_nil _ _ _ _,Br _⟩
 case round =>
  obtain ⟨k,hk,rfl,ab,hb⟩:=hrel
  by_cases aj:k<n
  ·have bh:(k:Int)<(n:Int):=by omega
   have aO:k<l.length:=by rw [HL.o];exact aj
   obtain ⟨g,o,rfl,hg,aP⟩:=HM.o k aO
   have e1:=(hb.cell (p:=⟨g,o+k,none⟩) hg).trans aP
   have aY:=uZ.o _ (List.getElem_mem aO)
   have xe:=Hy (HS.o k aO)
   obtain ⟨m,ct⟩:=Ex (l[k])
   rw [ct] at e1 xe aY
   have cV:=Hy (fun w=>show Calls prog 82 #[.string ⟨m.toArray⟩] w (zG (za m) w) from zb4 ⟨m.toArray⟩ aY w)
   obtain ⟨LM,iL⟩:=Ex (za m)
   rw [iL] at cV xe
   have H:=Hy (An ab hb)
   obtain ⟨oa,oc,rfl⟩:=zh ab
   clear ab hb aP ct iL aY
   go_wp2_with fail
   refine (cV.o _).mono ?_
   rintro e w5 ⟨rfl,ai⟩
   have H5:=Hy (An (zu H.o.1 ai) (H.o.2.trans (ai.mono H.o.2.size)))
   clear ai
   go_wp2_with (at_builtin;refine zaj rfl (.tmp 11) (.tmp 17) 47 9 rfl w.heap.size 1 16 (.string ByteArray.empty) Tryz.scinfo9 underlying47 rfl De 1 [.string ⟨LM.toArray⟩] rfl ?c0 _ k _ rfl _ rfl ?c3 H5.o.1 ?c1 ?c2 H5.o.2.size ?_)
   case c0=>first | rfl | (intro u hu;simp at hu;subst hu;rfl)
   case c1=>unfold maxLen;omega
   case c2=>omega
   case c3=>first | rfl | simp
   intro v' w' g1 g2
   have g3:w'.ownsRow w.heap.size 9 1 v' (k+1) (sc (R.take (k+1))):=by rw [xe.o];exact g1
   have H6:=Hy (An g3 (H5.o.2.trans g2))
   clear g1 g2 g3
   go_wp2
   exact ⟨⟨k+1,by omega,by go_num,H6.o.1,H6.o.2⟩,by simp [intOf];omega⟩
  obtain rfl:k=n:=by omega
  rw [List.take_of_length_le (by rw [qo.o,HL.o];exact Nat.le_refl _)] at ab
  obtain ⟨oa,oc,rfl⟩:=zh ab
  have H:=Hy (An ab hb)
  clear ab hb
  go_wp2
  go_ret
  have iB:=qo.o
  rw [HL.o] at iB
  exact ⟨oa,oc,by rw [iB];rfl,by rw [iB];exact H.o.1,H.o.2⟩
def zL (w:World) (v:Value) (T:List Ty):Prop :=
 ∃ a c,v=.slice a T.length c/\∀ i (hi:i<T.length),∃ g o,a=some ⟨g,o,none⟩/\g<w.heap.size/\w.cell? ⟨g,o+i*3,none⟩=some (.string ⟨T[i].1.toArray⟩)/\w.cell? ⟨g,o+i*3+1,none⟩=some (.int .i64 T[i].2.1)/\w.cell? ⟨g,o+i*3+2,none⟩=some (.bool T[i].2.2)
theorem zbc {T:List Ty} (h:zL w v T) (hb:Below w.heap.size w w'):zL w' v T:=by
 obtain ⟨a,c,rfl,h⟩:=h
 refine ⟨a,c,rfl,fun i hi=>?_⟩
 obtain ⟨g,o,h1,h2,h3,h4,h5⟩:=h i hi
 exact ⟨g,o,h1,Nat.lt_of_lt_of_le h2 hb.size,(hb.cell (p:=⟨g,_,none⟩) h2).trans h3,(hb.cell (p:=⟨g,_,none⟩) h2).trans h4,(hb.cell (p:=⟨g,_,none⟩) h2).trans h5⟩
def zam (v:Value):Prop:=v=.slice none 0 0\/∃ ad n c,v=.slice (some ad) n c
theorem zec (h:TxR w v l) (hk:zam v):zbl w 1 v l.length (sc l):=by
 obtain ⟨a,c,rfl,h⟩:=h
 refine ⟨by simp [sc],?_⟩
 rcases hk with hk | ⟨ad,n,c',hk⟩
 ·injection hk with h1 h2 h3
  exact .inl ⟨by rw [h1,h2,h3],h2⟩
 injection hk with h1 h2 h3
 subst h1
 refine .inr ⟨ad,c,rfl,fun j u hj=>?_⟩
 have lT:j<l.length:=by
  have:=(List.getElem?_eq_some_iff.1 hj).1
  simpa [sc] using this
 obtain ⟨g,o,e,_,h3⟩:=h j lT
 injection e with e
 subst e
 rw [WideShapes.add_plain,h3,<- hj]
 simp [sc,lT]
def zai (w:World) (v:Value) (C:List Cl):Prop :=
 ∃ a c,v=.slice a C.length c/\∀ i (hi:i<C.length),∃ g o mu ma,a=some ⟨g,o,none⟩/\g<w.heap.size/\w.cell? ⟨g,o+i*3,none⟩=some (.string ⟨C[i].1.toArray⟩)/\w.cell? ⟨g,o+i*3+1,none⟩=some mu/\w.cell? ⟨g,o+i*3+2,none⟩=some ma/\TxR w mu C[i].2.1/\TxR w ma C[i].2.2/\zam mu/\zam ma
theorem zed {C:List Cl} (h:zai w v C) (hb:Below w.heap.size w w'):zai w' v C:=by
 obtain ⟨a,c,rfl,h⟩:=h
 refine ⟨a,c,rfl,fun i hi=>?_⟩
 obtain ⟨g,o,mu,ma,h1,h2,h3,h4,h5,h6,h7,h8⟩:=h i hi
 exact ⟨g,o,mu,ma,h1,Nat.lt_of_lt_of_le h2 hb.size,(hb.cell (p:=⟨g,_,none⟩) h2).trans h3,(hb.cell (p:=⟨g,_,none⟩) h2).trans h4,(hb.cell (p:=⟨g,_,none⟩) h2).trans h5,zA h6 hb,zA h7 hb,h8⟩
theorem zf {g:Nat} (h:w.heap[g]?=some (.cells #[a,b] t (0,0))):w.cell? ⟨g,0,none⟩=some a/\w.cell? ⟨g,1,none⟩=some b :=
 ⟨zq h 0 a rfl,zq h 1 b rfl⟩
theorem zki {w1:World} {c:Value} (hb:Below (w.alloc (.cells #[a,b,c] t)).heap.size (w.alloc (.cells #[a,b,c] t)) w1):w1.heap[w.heap.size]?=some (.cells #[a,b,c] t (0,0))/\Below w.heap.size w w1 :=
 ⟨zj (heap_alloc_new w _) hb Sm,((Br w).alloc Lr _).trans (hb.mono Sm)⟩
def TyV (o:Option Ty):Value:=match o with
 | none=>.tuple #[.agg #[.string ⟨#[]⟩,.int .i64 0,.bool false],.bool false]
 | some t=>.tuple #[.agg #[.string ⟨t.1.toArray⟩,.int .i64 t.2.1,.bool t.2.2],.bool true]
def zkj (o:Option Ty) (w:World) (en:Ending) (w':World):Prop:=en=.returned (TyV o)/\Below w.heap.size w w'
theorem zkk (T:List Ty) (tv cv:Value) (s:Bs) (w:World) (h:zL w tv T) (dV:T.length<=1000000) (hb:∀ t∈T,t.1.length<=140737488355328) (hs:s.length<=140737488355328) :
  Calls prog 87 #[.agg #[tv,cv],.string ⟨s.toArray⟩] w (zkj (scT T s) w):=by
 obtain ⟨a,c,rfl,ae⟩:=h
 have HM:=Hy ae
 have uZ:=Hy hb
 have HY:=Hy (zxN (T:=T) (s:=s))
 have HN:=Hy (zxO (T:=T) (s:=s))
 have rt:=Hy (fun w=>show Calls prog 82 #[.string ⟨s.toArray⟩] w (zG (za s) w) from zb4 ⟨s.toArray⟩ hs w)
 obtain ⟨LS,mr⟩:=Ex (za s)
 rw [mr] at rt HY HN
 obtain ⟨R,hR⟩:=Ex (scT T s)
 rw [hR] at HY HN ⊢
 obtain ⟨n,hn⟩:=Ex T.length
 have HL:=Hy hn
 rw [hn] at dV ⊢
 have aE:Below w.heap.size w ((w.alloc (.cells #[.slice a n c,cv] 31)).alloc (.cells #[.string ⟨#[]⟩,.int .i64 0,.bool false] 69)):=((Br w).alloc Lr _).alloc Sm _
 have bB:((w.alloc (.cells #[.slice a n c,cv] 31)).alloc (.cells #[.string ⟨#[]⟩,.int .i64 0,.bool false] 69)).heap[w.heap.size]?=some (.cells #[.slice a n c,cv] 31 (0,0)):=za0 (heap_alloc_new w _) _
 have d7:((w.alloc (.cells #[.slice a n c,cv] 31)).alloc (.cells #[.string ⟨#[]⟩,.int .i64 0,.bool false] 69)).heap[w.heap.size+1]?=some (.cells #[.string ⟨#[]⟩,.int .i64 0,.bool false] 69 (0,0)):=by
  have:=heap_alloc_new (w.alloc (.cells #[.slice a n c,cv] 31)) (.cells #[.string ⟨#[]⟩,.int .i64 0,.bool false] 69)
  rw [World.size_alloc] at this
  exact this
 have aW:((w.alloc (.cells #[.slice a n c,cv] 31)).alloc (.cells #[.string ⟨#[]⟩,.int .i64 0,.bool false] 69)).heap.size=w.heap.size+2:=by simp
 obtain ⟨W1,aB⟩:=Ex ((w.alloc (.cells #[.slice a n c,cv] 31)).alloc (.cells #[.string ⟨#[]⟩,.int .i64 0,.bool false] 69))
 have br:=Hy aB
 rw [aB] at aE bB d7 aW
 have HX:=Hy (An bB (An d7 (An aE aW)))
 clear ae hR hn hb hs mr aB aE bB d7 aW
 go_enter func87,ntmps87
 go_wp2
 rw [br.o]
 go_loopw [6] (fun v wr=>∃ i:Nat,i<=n/\v=.int .i64 (i:Nat)/\Below (w.heap.size+2) W1 wr/\∀ j (hj:j<T.length),j<i->(za T[j].1==LS)=false) (fun v _=>n - (intOf v).toNat)
 case atStart=>exact ⟨0,by omega,rfl,Br _,fun j _ h=>by omega⟩
 case round =>
  obtain ⟨i,hi,rfl,hb,af⟩:=hrel
  have cQ:=hb.size
  have mP:=HX.o.2.2.2
  have x0:=zj HX.o.1 hb Om
  have x1:=zj HX.o.2.1 hb Om
  obtain ⟨b0,b1⟩:=zf x0
  by_cases aj:i<n
  ·have cW:(i:Int)<(n:Int):=by omega
   have cJ:i<T.length:=by rw [HL.o];exact aj
   obtain ⟨g,o,rfl,hg,aU,aP,cI⟩:=HM.o i cJ
   have aq:=HX.o.2.2.1.trans (hb.mono Om)
   have e0:=(aq.cell (p:=⟨g,_,none⟩) hg).trans aU
   have e1:=(aq.cell (p:=⟨g,_,none⟩) hg).trans aP
   have e2:=(aq.cell (p:=⟨g,_,none⟩) hg).trans cI
   have zg:=Nat.lt_of_lt_of_le hg aq.size
   have aY:=uZ.o _ (List.getElem_mem cJ)
   have I':=Hy (fun h=>HY.o i cJ af h)
   have Ja:=Hy (fun (hx:(za T[i].1==LS)=false) j (hj:j<T.length) (sd:j<i+1)=>(show (za T[j].1==LS)=false by
    by_cases fB:j=i
    ·subst fB;exact hx
    exact af j hj Om))
   obtain ⟨nm,aJ⟩:=Ex (T[i].1)
   obtain ⟨rl,bP⟩:=Ex (T[i].2.1)
   obtain ⟨sg,fL⟩:=Ex (T[i].2.2)
   rw [aJ] at e0 aY
   rw [bP] at e1
   rw [fL] at e2
   have iW:=Hy (fun w=>show Calls prog 82 #[.string ⟨nm.toArray⟩] w (zG (za nm) w) from zb4 ⟨nm.toArray⟩ aY w)
   obtain ⟨LX,mt⟩:=Ex (za nm)
   have HE:=Hy (show za T[i].1=LX/\T[i].2=(rl,sg) from ⟨by rw [aJ,mt],by rw [<- bP,<- fL]⟩)
   rw [mt] at iW
   have HB:=Hy (An hb (An x0 x1))
   clear hb af x0 x1 aU aP cI aJ bP fL mt aY aq
   go_wp2_with fail
   refine (iW.o _).mono ?_
   rintro en w5 ⟨rfl,ai⟩
   have Ni:=HB.o.1.trans (ai.mono Om)
   have h0:=(ai.cell (p:=⟨g,_,none⟩) zg).trans e0
   have h1:=(ai.cell (p:=⟨g,_,none⟩) zg).trans e1
   have h2:=(ai.cell (p:=⟨g,_,none⟩) zg).trans e2
   have y0:=zj HB.o.2.1 ai Om
   have y1:=zj HB.o.2.2 ai Om
   have l3:=Nat.lt_of_lt_of_le zg ai.size
   have e8:=ai.size
   clear b0 b1 e0 e1 e2 ai
   have bY:=Hy (An Ni (An y0 y1))
   clear Ni y0 y1
   go_wp2_with fail
   refine (rt.o _).mono ?_
   rintro en w6 ⟨rfl,az⟩
   have e0:=(az.cell (p:=⟨g,_,none⟩) l3).trans h0
   have e1:=(az.cell (p:=⟨g,_,none⟩) l3).trans h1
   have e2:=(az.cell (p:=⟨g,_,none⟩) l3).trans h2
   have y0:=zj bY.o.2.1 az Om
   have y1:=zj bY.o.2.2 az Om
   have fz:=az.size
   have d9:=Hy (An (bY.o.1.trans (az.mono Om)) (An y0 y1))
   obtain ⟨b0,b1⟩:=zf y0
   clear h0 h1 h2 az y0 y1
   cases hq:(LX==LS)
   ·have HI:=Hy (Ja.o (by rw [HE.o.1];exact hq))
    clear e0 e1 e2 b0 b1
    go_wp2
    exact ⟨⟨i+1,by omega,by go_num,d9.o.1,HI.o⟩,by simp [intOf];omega⟩
   have HR:=Hy (show R=some (LX,rl,sg) by rw [I'.o (by rw [HE.o.1];exact hq),HE.o.1,HE.o.2])
   go_wp2_with fail
   clear e0 e1 e2
   refine (iW.o _).mono ?_
   rintro en w8 ⟨rfl,bz⟩
   obtain ⟨y7,vo⟩:=zki bz
   have y1:=zj d9.o.2.2 vo Om
   obtain ⟨c0,c1,c2⟩:=ze y7
   have k0:=zc y7 0
   have r0:=(ze y1).1
   have r1:=(ze y1).2.1
   have r2:=(ze y1).2.2
   have f0:=zc y1 0
   have f1:=zc y1 1
   have f2:=zc y1 2
   have aH:w.heap.size+1≠w6.heap.size:=by omega
   have Nj:=zdc (p:=⟨w6.heap.size,0,none⟩) y1 aH (.string ⟨LX.toArray⟩)
   have iE:=Hy (An (HX.o.2.2.1.trans ((d9.o.1.trans (vo.mono Om)).mono Om)) Nj)
   clear b0 b1 bz vo y7 y1 Nj
   go_wp2
   obtain ⟨j0,j1,j2⟩:=ze (zbR iE.o.2 (.string ⟨LX.toArray⟩) (.int .i64 rl) (.bool sg))
   refine bodyPost_ret (v:=TyV (some (LX,rl,sg))) (by simp [results,results87,go_sem,TyV, *]) rfl ?_
   exact ⟨by rw [HR.o],zbV (iE.o.1.setCell (p:=⟨w6.heap.size,0,none⟩) (by show w.heap.size<=w6.heap.size;omega) _) Om _ _ _⟩
  obtain rfl:i=n:=by omega
  have HR:=Hy (HN.o (fun j hj=>af j hj (by rw [<- HL.o];exact hj)))
  have r0:=(ze x1).1
  have r1:=(ze x1).2.1
  have r2:=(ze x1).2.2
  have f0:=zc x1 0
  have f1:=zc x1 1
  have f2:=zc x1 2
  have HB:=Hy (An (HX.o.2.2.1.trans (hb.mono Om)) x1)
  clear hb af x0 x1
  go_wp2
  obtain ⟨j0,j1,j2⟩:=ze (zbR HB.o.2 (.string ⟨#[]⟩) (.int .i64 0) (.bool false))
  refine bodyPost_ret (v:=TyV none) (by simp [results,results87,go_sem,TyV, *]) rfl ?_
  exact ⟨by rw [HR.o],zbV HB.o.1 Om _ _ _⟩
def ScI (n:Int) (w:World) (en:Ending) (w':World):Prop:=en=.returned (.int .i64 n)/\Below w.heap.size w w'
theorem zaV {n m:Int} (h:n=m) (hb:Below w.heap.size w w'):ScI n w (.returned (.int .i64 m)) w':=by subst h;exact ⟨rfl,hb⟩
theorem zqh {N:List (Bs)} (k:Nat) (hk:k<N.length):sc (N.take (k+1))=sc (N.take k)++[.string ⟨N[k].toArray⟩]:=by
 rw [List.take_succ_eq_append_getElem hk]
 unfold sc
 rw [List.map_append];rfl
end Go.Proofs.YtijglbolppkefaaGreatDoor
