/- Plain facts on entries made. -/
import Derived.Test.YtijglbolppkefaaGreatDoorMPlEF
import Derived.Test.YtijglbolppkefaaGreatDoorMEnAB
import Derived.Test.YtijglbolppkefaaGreatDoorEnUW
import Derived.Test.YtijglbolppkefaaGreatDoorDqC
import Derived.Test.YtijglbolppkefaaGreatDoorEnJN
import Derived.Test.YtijglbolppkefaaGreatDoorRuK
set_option linter.unusedVariables false
set_option linter.unusedSimpArgs false
set_option maxHeartbeats 25600000
set_option maxRecDepth 100000
namespace Go.Proofs.YtijglbolppkefaaGreatDoor
open Go.Proofs.Tryz
open Go Go.Sort Go.Proofs.BerK
variable {k m : Nat}
def zAo (r:Int) (vs:List (Bs)):Bool:=(List.range vs.length).any fun i=>(List.range i).any fun k=>zaa r (vs.getD i []) (vs.getD k [])
def zp9 (r:Int) (v:Bs):List (Bs)->Option (List (Bs))
 | []=>none
 | x :: l=>if zaa r v x=true then some l else (zp9 r v l).map (x :: ·)
def zqa (r:Int):List (Bs)->List (Bs)->Option (List (Bs))
 | l,[]=>some l
 | l,v :: vs=>match zp9 r v l with
  | none=>none
  | some k=>zqa r k vs
def zC1 (r:Int) (L:List Atr) (n:Bs) (vs:List (Bs)):List Atr × Int :=
 if vs=[] then ([],19) else if zAo r vs=true then ([],20) else if (vs.any fun v=>(geL L n).any (zaa r v))=true then ([],20) else (clA (L++[(n,vs)]),0)
def zC2 (r:Int) (L:List Atr) (n:Bs) (vs:List (Bs)):List Atr × Int :=
 if vs=[] then (if geL L n=[] then ([],16) else (woL L n,0)) else match zqa r (geL L n) vs with
  | none=>([],16)
  | some l=>(clA (woL L n++[(n,l)]),0)
def zC3 (r:Int) (vs:List (Bs)):Bool:=vs.all fun v=>(ruN r v).2
theorem zAp (A:List Atr):clA (clA A)=clA A:=by
 refine (zjw (A:=clA A) ⟨(zbX A).1,fun p=>?_⟩).symm
 rw [zwT,zwQ]
 exact (zbX A).2 p
structure Cln (m k:Nat) (L:List Atr):Prop where
 cl:clA L=L
 few:za3 m k L
theorem zAq {A:List Atr} (h:za3 m k A):Cln m (k*m) (clA A):=⟨zAp A,zhd h⟩
theorem zAr {m' k':Nat} {L:List Atr} (h:Cln m k L) (h1:m<=m') (h2:k<=k'):Cln m' k' L:=⟨h.cl,zjV h.few h1 h2⟩
end Go.Proofs.YtijglbolppkefaaGreatDoor
namespace Go.Proofs.YtijglbolppkefaaGreatDoor
open Go.Proofs.Tryz
open Go Go.RowKit Go.Proofs.BerK Go.Proofs.MemK Go.Proofs.UtfK
variable {w : World} {v : Value} {A L : List Atr} {t : TypeId} {B rb : Nat} {cs : Array Value} {s : Bs}
def zqb (dn:Bs) (L:List Atr) (w:World) (en:Ending) (w':World):Prop:=∃ v,en=.returned (.agg #[.string ⟨dn.toArray⟩,v])/\zC w' v L/\Below w.heap.size w w'
theorem zdi (h:zC w v L):∃ a c,v=.slice a L.length c:=by
 obtain ⟨_,_,_,h⟩:=h
 exact zh h
theorem zhD {g:Nat} {a b:Value} (h:w.heap[g]?=some (.cells #[a,b] t (0,0))) (c d:Value):((w.setCell ⟨g,0,none⟩ c).setCell ⟨g,1,none⟩ d).heap[g]?=some (.cells #[c,d] t (0,0)):=by simpa using zH (zH h 0 c) 1 d
theorem zqc {a:World} (h:Below B a w) {g:Nat} (hg:B<=g) (x y:Value):Below B a ((w.setCell ⟨g,0,none⟩ x).setCell ⟨g,1,none⟩ y):=(h.setCell (p:=⟨g,0,none⟩) hg x).setCell (p:=⟨g,1,none⟩) hg y
theorem zhE {s n:Nat} {e:TypeId} {xs:List Value} (h:w.ownsRow B e s v n xs) (hx:w.heap[rb]?=some (.cells cs t (0,0))) (aH:e≠t) (x y:Value):((w.setCell ⟨rb,0,none⟩ x).setCell ⟨rb,1,none⟩ y).ownsRow B e s v n xs:=by
 refine zz (S:=fun k=>k=rb) h (((Chg.refl (fun k=>k=rb) w).setCell (p:=⟨rb,0,none⟩) (fun _=>rfl) x).setCell (p:=⟨rb,1,none⟩) (fun _=>rfl) y) (fun k hk e2=>?_)
 have e2:k=rb:=e2
 subst e2
 rcases h.2 with ⟨rfl,_⟩ | ⟨g,cap,cur,rfl,_,hg,_⟩
 ·cases hk
 have e1:g=k:=by injection hk
 subst e1
 rw [hg] at hx
 injection hx with hx
 injection hx with _ hx
 exact aH hx
theorem zAs (h:zC w v L) (hx:w.heap[rb]?=some (.cells cs t (0,0))) (h1:74 ≠ t) (h2:9 ≠ t) (x y:Value):zC ((w.setCell ⟨rb,0,none⟩ x).setCell ⟨rb,1,none⟩ y) v L:=by
 obtain ⟨Lq,B,hq,hr⟩:=h
 exact ⟨Lq,B,⟨hq.1,fun i i1 i2=>⟨(hq.2 i i1 i2).1,by obtain ⟨_,B2,hB⟩:=hq.2 i i1 i2;exact ⟨B2,zhE hB hx h2 x y⟩⟩⟩,zhE hr hx h1 x y⟩
theorem zqd (dn:Bs) (A:List Atr) (v:Value) (w:World) (h:zaB w v A) (hf:za3 300 300 A) :
  Calls prog 90 #[.agg #[.string ⟨dn.toArray⟩,v]] w (zqb dn (clA A) w):=by
 obtain ⟨a,c,rfl,ae⟩:=h
 have HM:=Hy ae
 have HF:=Hy hf
 have HS:=Hy (fun i (hi:i<A.length)=>zwY (A:=A) i hi)
 have HT:=Hy (show clA (A.take A.length)=clA A by rw [List.take_length])
 have mh:=Hy (show clA (A.take 0)=[] by rw [List.take_zero];exact zok)
 obtain ⟨R,hR⟩:=Ex (clA A)
 rw [hR] at HT ⊢
 obtain ⟨n,hn⟩:=Ex A.length
 have HL:=Hy hn
 have fv:n<=300:=by rw [<- hn];exact hf.1
 rw [hn] at HT ⊢
 obtain ⟨W1,aB⟩:=Ex ((w.alloc (.cells #[.string ⟨dn.toArray⟩,.slice a n c] 39)).alloc (.cells #[.string ⟨#[]⟩,.slice none 0 0] 39))
 have HX:=Hy (zjK aB)
 have br:=Hy aB
 clear ae hf hR hn aB
 go_enter func90,ntmps90
 go_wp2
 try rw [br.o]
 go_loopw [3,4] (fun lv v wr=>∃ k:Nat,k<=n/\v=.int .i64 (k:Nat)/\zC wr lv (clA (A.take k))/\Below (w.heap.size+2) W1 wr) (fun _ v _=>n - (intOf v).toNat)
 case atStart=>exact ⟨0,by omega,rfl,by rw [mh.o];exact zvo _,Br _⟩
 case round =>
  obtain ⟨k,hk,rfl,cP,hb⟩:=hrel
  have x0:=zj HX.o.1 hb Om
  have x1:=zj HX.o.2.1 hb Om
  obtain ⟨b0,b1⟩:=zf x0
  obtain ⟨d0,d1⟩:=zf x1
  have f0:=zc x1 0
  have f1:=zc x1 1
  have zb:=zi x0
  have aq:=HX.o.2.2.1.trans (hb.mono Om)
  have HY:=Hy (An x0 x1)
  clear x0 x1
  by_cases aj:k<n
  ·clear d0 d1 f0 f1
   have bh:(k:Int)<(n:Int):=by omega
   have aO:k<A.length:=by rw [HL.o];exact aj
   obtain ⟨g,o,vl,rfl,hg,aU,aP,dt⟩:=HM.o k aO
   have e0:=(aq.cell (p:=⟨g,_,none⟩) hg).trans aU
   have e1:=(aq.cell (p:=⟨g,_,none⟩) hg).trans aP
   have zg:=Nat.lt_of_lt_of_le hg aq.size
   have I7:=zA dt aq
   have hS:=HS.o k aO
   have hF:=HF.o.2 _ (List.getElem_mem aO)
   have EZ:=zhd (zo5 HF.o k)
   obtain ⟨m,ct⟩:=Ex (A[k].1)
   obtain ⟨V,hV⟩:=Ex (A[k].2)
   rw [ct,hV] at hS hF
   rw [ct] at e0
   rw [hV] at I7
   obtain ⟨L,Nd⟩:=Ex (clA (A.take k))
   rw [Nd] at cP hS EZ
   have cV:=Hy (fun w=>show Calls prog 82 #[.string ⟨m.toArray⟩] w (zG (za m) w) from zb4 ⟨m.toArray⟩ (by show m.length<=_;omega) w)
   obtain ⟨LM,iL⟩:=Ex (za m)
   rw [iL] at cV hS
   have vk:=Hy (fun w' (co:Below wr.heap.size wr w')=>zvv L LM V u3 vl w' (zcn cP co) (zA I7 co) (by have:=EZ.1;omega) (fun p hp=>by have:=(EZ.2 p hp).2.1;omega) Om)
   obtain ⟨va,vc,rfl,_⟩:=I7
   obtain ⟨nl,jg⟩:=Ex V.length
   rw [jg] at vk e1
   have H:=Hy (An hS hb)
   clear cP hb hS hF EZ ct hV Nd iL aU aP aq dt jg b0 hg
   go_wp2_with fail
   go_region_held3 (fun w'=>w'.cell? ⟨w.heap.size,1,none⟩=some (.slice (some ⟨g,o,none⟩) n c)/\w'.cell? ⟨g,o+k*2,none⟩=some (.string ⟨m.toArray⟩)/\w'.cell? ⟨g,o+k*2+1,none⟩=some (.slice va nl vc)) (first | exact ⟨au,cg,dK⟩ | exact ⟨b1,e0,e1⟩ | go_keep)
    (first | (go_at_call 82;(with_reducible refine (cV.o _).mono ?_);rintro en wz ⟨rfl,ai⟩;have ax:Below wr.heap.size wr wz:=(by first | exact ax.trans (ai.mono ax.size) | exact (Br wr).drew.trans ai);have au:=(ax.cell (p:=⟨w.heap.size,1,none⟩) zb).trans b1;have cg:=(ax.cell (p:=⟨g,o+k*2,none⟩) zg).trans e0;have dK:=(ax.cell (p:=⟨g,o+k*2+1,none⟩) zg).trans e1;clear ai) | (go_at_call 127;(with_reducible refine (vk.o _ (by first | exact ax | exact (Br wr).drew)).mono ?_);rintro en wz ⟨lv',rfl,C6,ai⟩;have ax:Below wr.heap.size wr wz:=(by first | exact ax.trans (ai.mono ax.size) | exact (Br wr).drew.trans ai);have au:=(ax.cell (p:=⟨w.heap.size,1,none⟩) zb).trans b1;have cg:=(ax.cell (p:=⟨g,o+k*2,none⟩) zg).trans e0;have dK:=(ax.cell (p:=⟨g,o+k*2+1,none⟩) zg).trans e1;have Nf:=Hy (An C6 ax);clear ai C6))
   go_wp2
   refine ⟨⟨k+1,by omega,by go_num,?_,H.o.2.trans (Nf.o.2.mono (by have:=H.o.2.size;rw [HX.o.2.2.2] at this;exact this))⟩,by simp [intOf];omega⟩
   rw [H.o.1]
   exact Nf.o.1
  obtain rfl:k=n:=by omega
  rw [HT.o] at cP
  obtain ⟨la,lc,rfl⟩:=zdi cP
  obtain ⟨rl,bP⟩:=Ex R.length
  rw [bP] at cP ⊢
  have H:=Hy (An cP (An aq bP))
  clear cP hb aq bP
  go_wp2
  obtain ⟨j0,j1⟩:=zf (zhD HY.o.2 (.string ⟨dn.toArray⟩) (.slice la rl lc))
  refine bodyPost_ret (v:=.agg #[.string ⟨dn.toArray⟩,.slice la rl lc]) (by simp [results,results90,go_sem, *]) rfl ?_
  exact ⟨_,rfl,zAs H.o.1 HY.o.2 De De _ _,zqc H.o.2.1 Om _ _⟩
def zAt (dn:Bs) (L:List Atr) (w:World) (en:Ending) (w':World):Prop:=∃ v Lq,en=.returned (.agg #[.string ⟨dn.toArray⟩,v])/\zad w' Lq L/\w'.ownsRow w.heap.size 74 2 v L.length (zm Lq)/\Below w.heap.size w w'
theorem zAu {Lq:List (Bs × Value)} (h:zad w Lq L) (hx:w.heap[rb]?=some (.cells cs t (0,0))) (h2:9 ≠ t) (x y:Value):zad ((w.setCell ⟨rb,0,none⟩ x).setCell ⟨rb,1,none⟩ y) Lq L :=
 ⟨h.1,fun i i1 i2=>⟨(h.2 i i1 i2).1,by obtain ⟨_,B2,hB⟩:=h.2 i i1 i2;exact ⟨B2,zhE hB hx h2 x y⟩⟩⟩
theorem zdH (h:zak w v A):∃ a c,v=.slice a A.length c:=by
 obtain ⟨_,a,c,e,_⟩:=h
 exact ⟨a,c,e⟩
theorem zqe (A:List Atr) (dn:Bs) (av:Value) (w:World) (h:zak w av A) (hf:zdB A):Calls prog 40 #[.agg #[.string ⟨dn.toArray⟩,av]] w (zAt dn (clA A) w):=by
 have HA:=Hy h
 obtain ⟨a,c,rfl⟩:=zdH h
 obtain ⟨W1,aB⟩:=Ex ((w.alloc (.cells #[.string ⟨dn.toArray⟩,.slice a A.length c] 39)).alloc (.cells #[.string ⟨#[]⟩,.slice none 0 0] 39))
 obtain ⟨x0,x1,au,bi⟩:=zjK aB
 have HC:=Hy (fun w' (hb:Below W1.heap.size W1 w')=>zvf A _ w' (zcb (zcb h au) hb) hf)
 obtain ⟨p0,p1⟩:=zf x0
 obtain ⟨r0,r1⟩:=zf x1
 have g0:=zc x1 0
 have g1:=zc x1 1
 have aH:w.heap.size≠w.heap.size+1:=by omega
 have z0:w.heap.size<W1.heap.size:=by omega
 have z1:w.heap.size+1<W1.heap.size:=by omega
 have HX:=Hy (An x1 (An au bi))
 have br:=Hy aB
 obtain ⟨n,hn⟩:=Ex A.length
 rw [hn] at p1 HC br ⊢
 obtain ⟨R,hR⟩:=Ex (clA A)
 rw [hR] at HC ⊢
 clear h hf x0 x1 au bi aB hn hR HA
 go_enter func40,ntmps40
 go_wp2_with fail
 try rw [br.o]
 go_region_held3 (fun w'=>w'.cell? ⟨w.heap.size,0,none⟩=some (.string ⟨dn.toArray⟩)/\w'.cell? ⟨w.heap.size,1,none⟩=some (.slice a n c)) (first | exact ⟨d0,d1⟩ | exact ⟨p0,p1⟩ | exact ⟨(zc6 aH _ _ _ _ _).trans d0,(zc6 aH _ _ _ _ _).trans d1⟩ | go_keep)
  (first | (go_at_call 58;(with_reducible refine (HC.o _ ((Br W1).drew)).mono ?_);rintro en w5 ⟨v,Lq,rfl,aS,hr,ai⟩;obtain ⟨va,vc,rfl⟩:=zh hr;have ax:Below W1.heap.size W1 w5:=(Br W1).drew.trans ai;have d0:=(ax.cell (p:=⟨w.heap.size,0,none⟩) z0).trans p0;have d1:=(ax.cell (p:=⟨w.heap.size,1,none⟩) z0).trans p1;have s0:=(ax.cell (p:=⟨w.heap.size+1,0,none⟩) z1).trans r0;have s1:=(ax.cell (p:=⟨w.heap.size+1,1,none⟩) z1).trans r1;have k0:=(ax.frozen (p:=⟨w.heap.size+1,0,none⟩) z1).trans g0;have k1:=(ax.frozen (p:=⟨w.heap.size+1,1,none⟩) z1).trans g1;have HR:=Hy (An aS (An hr ax));clear aS hr ai ax))
 all_goals
  have sn:=zj HX.o.1 HR.o.2.2 Om
  have HY:=Hy sn
  clear sn d0 d1
  go_wp2
  obtain ⟨j0,j1⟩:=zf (zhD HY.o (.string ⟨dn.toArray⟩) (.slice va R.length vc))
  refine bodyPost_ret (v:=.agg #[.string ⟨dn.toArray⟩,.slice va R.length vc]) (by simp [results,results40,go_sem, *]) rfl ?_
  exact ⟨_,Lq,rfl,zAu HR.o.1 HY.o De _ _,zhE (zaK HR.o.2.1 (by show w.heap.size<=W1.heap.size;omega)) HY.o De _ _,zqc (HX.o.2.1.trans (HR.o.2.2.mono HX.o.2.1.size)) Om _ _⟩
def zAv (l:List (Bs)) (w:World) (en:Ending) (w':World):Prop:=(∃ a c,en=.returned (.slice a l.length c)/\TxR w' (.slice a l.length c) l)/\Below w.heap.size w w'
theorem zAw {k:Nat} (hk:k<(clA A).length) (h:(clA A)[k].1=za s):geL A s=(clA A)[k].2:=by
 have hm:=(zbX A).2 (clA A)[k] |>.1 (List.getElem_mem hk)
 unfold geL
 rw [<- h]
 exact hm.1.symm
theorem zAx (h:∀ j (hj:j<(clA A).length),(clA A)[j].1≠za s):geL A s=[]:=by
 by_cases e:geL A s=[]
 ·exact e
 exfalso
 have hm:(za s,geL A s)∈clA A:=(zbX A).2 _ |>.2 ⟨rfl,e⟩
 obtain ⟨j,hj,iG⟩:=List.getElem_of_mem hm
 exact h j hj (by rw [iG])
theorem zAy (A:List Atr) (dn s:Bs) (av:Value) (w:World) (h:zaB w av A) (hf:za3 300 300 A) (hs:s.length<=1000000):Calls prog 124 #[.agg #[.string ⟨dn.toArray⟩,av],.string ⟨s.toArray⟩] w (zAv (geL A s) w):=by
 obtain ⟨a,c,rfl,_⟩:=id h
 obtain ⟨W,hW⟩:=Ex (w.alloc (.cells #[.string ⟨dn.toArray⟩,.slice a A.length c] 39))
 have aE:=Nb hW
 have hg:=Nw hW
 obtain ⟨d0,d1⟩:=zf hg
 have HC:=Hy (zqd dn A _ W (zbL h aE) hf)
 have Ng:=Hy (zhd hf)
 have cV:=Hy (fun w'=>show Calls prog 82 #[.string ⟨s.toArray⟩] w' (zG (za s) w') from zb4 ⟨s.toArray⟩ (by show s.length<=_;omega) w')
 have HG:=Hy (An (fun k hk h=>zAw (A:=A) (s:=s) (k:=k) hk h) (zAx (A:=A) (s:=s)))
 obtain ⟨GL,I8⟩:=Ex (geL A s)
 have Nh:=Hy I8
 rw [I8]
 obtain ⟨n,hn⟩:=Ex A.length
 rw [hn] at HC hW d1 ⊢
 obtain ⟨R,hR⟩:=Ex (clA A)
 rw [hR] at HC Ng HG
 have gm:=Hy aE
 have rY:∀ (w:World) (a:Option Addr) (n c:Nat),(Instr.field 39 (.agg #[.string ⟨dn.toArray⟩,.slice a n c]) 1).run prog w=.ok (.slice a n c) w:=fun w a n c=>by kernel_rfl
 clear h hf aE hg hn hR I8
 go_enter func124,ntmps124
 go_wp2_with fail
 refine HC.o.mono ?_
 rintro e w4 ⟨v,rfl,cP,bf⟩
 obtain ⟨ra,rc,rfl⟩:=zdi cP
 obtain ⟨rl,bP⟩:=Ex R.length
 have qo:=Hy bP
 have hrlb:rl<=100000:=by have:=Ng.o.1;omega
 have HP:=Hy (An cP (gm.o.trans (bf.mono gm.o.size)))
 rw [bP]
 clear cP bf bP d0 d1 hW
 go_wp2
 go_loopw [6] (fun v wr=>∃ k:Nat,k<=rl/\v=.int .i64 (k:Nat)/\Below w4.heap.size w4 wr/\∀ j (hj:j<R.length),j<k->R[j].1≠za s) (fun v _=>rl - (intOf v).toNat)
 case atStart=>exact ⟨0,by omega,rfl,Br _,fun j _ h=>by omega⟩
 case round =>
  obtain ⟨k,hk,rfl,hb,af⟩:=hrel
  by_cases aj:k<rl
  ·have bh:(k:Int)<(rl:Int):=by omega
   have lC:k<R.length:=by rw [qo.o];exact aj
   obtain ⟨Lq,B,I9,E0⟩:=HP.o.1
   obtain ⟨rg,rc',eo,hrB,oY⟩:=zfL E0 Om
   injection eo with eo1 eo2 eo3
   subst eo1 eo3
   clear eo2
   have sH:k<Lq.length:=by rw [I9.1];exact lC
   obtain ⟨h1,h2⟩:=zca Lq k sH
   obtain ⟨de,EU,jT⟩:=I9.2 k sH lC
   have t0:=(hb.cell (p:=⟨rg,k*2,none⟩) oY).trans ((E0.cellAt (k*2) Om).trans h1)
   have t1:=(hb.cell (p:=⟨rg,k*2+1,none⟩) oY).trans ((E0.cellAt (k*2+1) Om).trans h2)
   obtain ⟨xa,xc,rj⟩:=zh jT
   rw [rj] at t1
   have tf:=HG.o.1 k lC
   obtain ⟨⟨t,T⟩,vm⟩:∃ x,R[k]=x:=⟨_,rfl⟩
   rw [vm] at de tf t1
   dsimp only at de tf t1
   rw [de] at t0
   have zr:rg<wr.heap.size:=by have:=hb.size;omega
   have H:=Hy (An hb (An af (An tf vm)))
   obtain ⟨Tn,sq⟩:=Ex T.length
   have HT:=Hy sq
   have rN:=Hy (show TxR w4 (.slice xa Tn xc) T by rw [rj] at jT;rw [vm] at jT;rw [<- sq];exact zaL jT)
   rw [sq] at t1
   clear hb af I9 E0 hrB h1 h2 de jT rj tf vm sq
   by_cases he:t=za s
   ·have q1:(t==za s)=true:=by simp [he]
    have HN:=Hy (show GL=T by rw [<- Nh.o,H.o.2.2.1 he])
    clear he
    go_wp2_with fail
    go_region_held3 (fun w'=>w'.cell? ⟨rg,k*2,none⟩=some (.string ⟨t.toArray⟩)) (first | exact ⟨Nc⟩ | exact ⟨t0⟩ | go_keep)
     (first | (go_at_call 82;(with_reducible refine (cV.o _).mono ?_);rintro en wz ⟨rfl,ai⟩;have ax:Below wr.heap.size wr wz:=(by first | exact ax.trans (ai.mono ax.size) | exact (Br wr).drew.trans ai);have Nc:=(ax.cell (p:=⟨rg,k*2,none⟩) zr).trans t0;clear ai))
    have ht1:=(ax.cell (p:=⟨rg,k*2+1,none⟩) zr).trans t1
    clear t1 t0
    go_wp2
    go_ret
    refine ⟨⟨xa,xc,by rw [HN.o,HT.o];rfl,?_⟩,HP.o.2.trans ((H.o.1.trans (ax.mono H.o.1.size)).mono HP.o.2.size)⟩
    rw [HN.o,HT.o]
    exact zA rN.o (H.o.1.trans (ax.mono H.o.1.size))
   have q1:(t==za s)=false:=by simpa using he
   have HN:=Hy (show ∀ j (hj:j<R.length),j<k+1->R[j].1≠za s from fun j hj fB=>by
    by_cases e:j=k
    ·subst e;rw [H.o.2.2.2];exact he
    exact H.o.2.1 j hj Om)
   clear he
   go_wp2_with fail
   go_region_held3 (fun w'=>w'.cell? ⟨rg,k*2,none⟩=some (.string ⟨t.toArray⟩)) (first | exact ⟨Nc⟩ | exact ⟨t0⟩ | go_keep)
    (first | (go_at_call 82;(with_reducible refine (cV.o _).mono ?_);rintro en wz ⟨rfl,ai⟩;have ax:Below wr.heap.size wr wz:=(by first | exact ax.trans (ai.mono ax.size) | exact (Br wr).drew.trans ai);have Nc:=(ax.cell (p:=⟨rg,k*2,none⟩) zr).trans t0;clear ai))
   clear t1 t0
   go_wp2
   exact ⟨⟨k+1,by omega,by go_num,H.o.1.trans (ax.mono H.o.1.size),HN.o⟩,by simp [intOf];omega⟩
  obtain rfl:k=rl:=by omega
  have HN:=Hy (show GL=[] by rw [<- Nh.o];exact HG.o.2 (fun j hj=>af j hj (by rw [<- qo.o];exact hj)))
  have H:=Hy hb
  clear hb af
  go_wp2
  go_ret
  refine ⟨⟨none,0,by rw [HN.o];rfl,?_⟩,HP.o.2.trans (H.o.mono HP.o.2.size)⟩
  rw [HN.o]
  exact ⟨none,0,rfl,fun i hi=>by simp at hi⟩
theorem zAz (hf:za3 300 300 A) (s:Bs):(geL A s).length<=1000000:=by
 have h:=zhd hf
 by_cases e:geL A s=[]
 ·rw [e];simp
 have hm:(za s,geL A s)∈clA A:=(zbX A).2 _ |>.2 ⟨rfl,e⟩
 have:=(h.2 _ hm).2.1
 dsimp only at this
 omega
theorem zAA (A:List Atr) (dn attr value:Bs) (r:Int) (av:Value) (w:World) (h:zaB w av A) (hf:za3 300 300 A) (hs:attr.length<=1000000) :
  Calls prog 88 #[.agg #[.string ⟨dn.toArray⟩,av],.string ⟨attr.toArray⟩,.string ⟨value.toArray⟩,.int .i64 r] w (BB ((geL A attr).any (zaa r value)) w):=by
 obtain ⟨W,hW⟩:=Ex (w.alloc (.cells #[.string ⟨dn.toArray⟩,av] 39))
 have aE:=Nb hW
 have hg:=Nw hW
 have HC:=Hy (zAy A dn attr av W (zbL h aE) hf hs)
 have HE:=Hy (fun a b w=>zp8 r a b w)
 have HS:=Hy (show ∀ x,zaa r value x=(eqP (ruN r x) (ruN r value)==1) from fun _=>rfl)
 obtain ⟨a,c,rfl,_⟩:=id h
 obtain ⟨d0,d1⟩:=zf hg
 have gm:=Hy aE
 have bZ:=zAz hf attr
 obtain ⟨R,hR⟩:=Ex (geL A attr)
 rw [hR] at HC bZ ⊢
 obtain ⟨n,hn⟩:=Ex A.length
 rw [hn] at HC hW d1 ⊢
 have HW:=Hy hW
 clear h hf aE hg hn hR hW hs
 go_enter func88,ntmps88
 go_wp2_with fail
 rw [HW.o]
 go_wp2_with fail
 refine HC.o.mono ?_
 rintro e w4 ⟨⟨ra,rc,rfl,eK⟩,bf⟩
 have HP:=Hy (An eK (gm.o.trans (bf.mono gm.o.size)))
 obtain ⟨rl,bP⟩:=Ex R.length
 have qo:=Hy bP
 rw [bP] at bZ ⊢
 clear eK bf bP d0 d1
 go_wp2
 go_loopw [10] (fun v wr=>∃ k:Nat,k<=rl/\v=.int .i64 (k:Nat)/\Below w4.heap.size w4 wr/\(R.take k).any (zaa r value)=false) (fun v _=>rl - (intOf v).toNat)
 case atStart=>exact ⟨0,by omega,rfl,Br _,rfl⟩
 case round =>
  obtain ⟨k,hk,rfl,hb,af⟩:=hrel
  by_cases aj:k<rl
  ·have bh:(k:Int)<(rl:Int):=by omega
   have lC:k<R.length:=by rw [qo.o];exact aj
   obtain ⟨a',c',e',ae⟩:=HP.o.1
   obtain ⟨g,o,e2,hg,c0w⟩:=ae k lC
   injection e' with e1 _ e3
   subst e1
   subst e2
   have c0:=(hb.cell (p:=⟨g,o+k,none⟩) hg).trans c0w
   have cj:=zgM (zaa r value) R k lC
   obtain ⟨x,hx⟩:=Ex (R[k])
   rw [hx] at c0 cj
   have xt:=Hy (HE.o x value wr)
   have H:=Hy (An hb (An af (An cj (HS.o x))))
   obtain ⟨q,hq⟩:=Ex (eqP (ruN r x) (ruN r value))
   rw [hq] at xt H
   clear hb af ae cj c0w hx e3 hq
   by_cases h1:q=1
   ·have ht:(q==1)=true:=by simp [h1]
    have HN:=Hy (show R.any (zaa r value)=true by
     have h2:(R.take (k+1)).any (zaa r value)=true:=by rw [H.o.2.2.1,H.o.2.2.2,ht];simp
     rw [List.any_eq_true] at h2 ⊢
     obtain ⟨y,hy,Iy⟩:=h2
     exact ⟨y,List.mem_of_mem_take hy,Iy⟩)
    clear h1
    go_wp2_with fail
    refine xt.o.mono ?_
    rintro e w5 ⟨rfl,ai⟩
    have H5:=Hy ai
    clear ai c0
    go_wp2
    go_ret
    exact zB HN.o (HP.o.2.trans ((H.o.1.trans (H5.o.mono H.o.1.size)).mono HP.o.2.size))
   have ht:(q==1)=false:=by simpa using h1
   have HN:=Hy (show (R.take (k+1)).any (zaa r value)=false by rw [H.o.2.2.1,H.o.2.2.2,ht,H.o.2.1];rfl)
   clear h1
   go_wp2_with fail
   refine xt.o.mono ?_
   rintro e w5 ⟨rfl,ai⟩
   have H5:=Hy ai
   clear ai c0
   go_wp2
   exact ⟨⟨k+1,by omega,by go_num,H.o.1.trans (H5.o.mono H.o.1.size),HN.o⟩,by simp [intOf];omega⟩
  obtain rfl:k=rl:=by omega
  have HN:=Hy (show R.any (zaa r value)=false by rw [<- qo.o,List.take_length] at af;exact af)
  have H:=Hy hb
  clear hb af
  go_wp2
  go_ret
  exact zB HN.o (HP.o.2.trans (H.o.mono HP.o.2.size))
end Go.Proofs.YtijglbolppkefaaGreatDoor
