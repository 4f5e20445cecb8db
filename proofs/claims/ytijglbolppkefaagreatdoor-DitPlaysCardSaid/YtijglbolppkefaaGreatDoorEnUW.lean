/- The document's put: a type that. -/
import Derived.Test.YtijglbolppkefaaGreatDoorEnQT
set_option linter.unusedVariables false
set_option linter.unusedSimpArgs false
set_option maxHeartbeats 25600000
set_option maxRecDepth 100000
namespace Go.Proofs.YtijglbolppkefaaGreatDoor
open Go.Proofs.Tryz
open Go Go.RowKit Go.Proofs.BerK Go.Proofs.MemK Go.Proofs.UtfK
theorem znm {p:Prop} (h:p:=by
 have cW:(i:Int)<(m:Int):=by omega
 have sy:i<V.length:=by rw [l7.o];exact aj
 obtain ⟨gv,ov,rfl,rh,aU⟩:=HV.o i sy
 have e0:=(aq.cell (p:=⟨gv,ov+i,none⟩) rh).trans aU
 have bm:=sA.o i sy
 have ew:=mb.o i
 obtain ⟨y,hy⟩:=Ex (V[i])
 rw [hy] at e0 bm
 obtain ⟨F0,hF⟩:=Ex ((V.take i).foldl zn X)
 rw [hF] at ab bm ew
 have eK:=zaL ab
 obtain ⟨fa,fc,rfl,sC⟩:=eK
 have Cq:=Hy sC
 have HI:=Hy (An ab (An hb (An bm (An ew (zi0 (F:=F0) (y:=y))))))
 have Cr:=Hy (show inL (F0.take F0.length) y=inL F0 y by rw [List.take_length])
 obtain ⟨nf,o8⟩:=Ex F0.length
 have iM:=Hy o8
 rw [o8]
 clear ab hb bm aq y0 y1 aU sC hy hF o8 q0 q1
 go_wp2
 go_loopw [10,11] (fun s v wz=>∃ j q:Nat,j<=nf/\v=.int .i64 (j:Nat)/\s=.bool (inL (F0.take j) y)/\wz=wr.drewN q) (fun _ v _=>nf - (intOf v).toNat)
 case atStart=>exact ⟨0,0,by omega,rfl,rfl,rfl⟩
 case round =>
  obtain ⟨j,q,hj,rfl,rfl,rfl⟩:=hrel
  by_cases p5:j<nf
  ·have lT:(j:Int)<(nf:Int):=by omega
   have sD:j<F0.length:=by rw [iM.o];exact p5
   obtain ⟨gf,of,rfl,Mn,f0⟩:=Cq.o j sD
   have hs:=HI.o.2.2.2.2 j sD
   obtain ⟨z,hz⟩:=Ex (F0[j])
   rw [hz] at f0 hs
   obtain ⟨b,aX⟩:=Ex (inL (F0.take j) y)
   rw [aX] at hs
   have HS:=Hy hs
   rw [aX]
   clear hz aX hs
   cases b
   ·obtain ⟨c,hc⟩:=Ex (z==y)
    have HC:=Hy hc
    cases c
    ·go_wp2
     go_quiet (fail)
     go_wp2
     exact ⟨⟨j+1,q+nq,by omega,by go_num,by rw [HS.o,HC.o];rfl,rfl⟩,by simp [intOf];omega⟩
    go_wp2
    go_quiet (fail)
    go_wp2
    exact ⟨⟨j+1,q+nq,by omega,by go_num,by rw [HS.o,HC.o];rfl,rfl⟩,by simp [intOf];omega⟩
   go_wp2
   go_quiet (fail)
   go_wp2
   exact ⟨⟨j+1,q+nq,by omega,by go_num,by rw [HS.o];rfl,rfl⟩,by simp [intOf];omega⟩
  obtain rfl:j=nf:=by omega
  have hT:=Cr.o
  rw [iM.o] at hT
  rw [hT]
  obtain ⟨b,aX⟩:=Ex (inL F0 y)
  rw [aX]
  obtain ⟨W7,aT⟩:=Ex (wr.drewN q)
  have aR:Below wr.heap.size wr W7:=by rw [<- aT];exact zae (Br _) _
  have Mo:=(aR.cell (p:=⟨w.heap.size,0,none⟩) (Lib.lt_of_cell p0)).trans p0
  have Mp:=(aR.cell (p:=⟨w.heap.size,1,none⟩) (Lib.lt_of_cell p1)).trans p1
  have Mr:=(aR.cell (p:=⟨gv,ov+i,none⟩) (Lib.lt_of_cell e0)).trans e0
  have o9:=zu HI.o.1 aR
  rw [iM.o] at o9
  have H7:=Hy (An o9 (HI.o.2.1.trans (aR.mono HI.o.2.1.size)))
  have Ms:j<=200000:=by rw [<- iM.o];exact HI.o.2.2.2.1
  rw [aT]
  clear hT aT aR p0 p1 e0 o9
  cases b
  ·have HE:=Hy (show (V.take (i+1)).foldl zn X=F0++[y] by rw [HI.o.2.2.1];unfold zn;rw [if_neg (by rw [aX];simp)])
   clear aX
   go_wp2_with (first
    | (at_builtin;refine zaj rfl (.tmp 89) (.tmp 95) 47 9 rfl W4.heap.size 1 16 (.string ByteArray.empty) Tryz.scinfo9 underlying47 rfl De 1 [.string ⟨y.toArray⟩] rfl ?c0 _ _ _ rfl _ rfl ?c3 H7.o.1 ?c1 ?c2 H7.o.2.size ?_)
    | go_in)
   case c0=>first | rfl | (intro u hu;simp at hu;subst hu;rfl)
   try (case c1=>unfold maxLen;omega)
   try (case c2=>omega)
   case c3=>first | rfl | simp
   intro v' w' g1 g2
   have H8:=Hy (An g1 (H7.o.2.trans g2))
   clear g1 g2
   go_wp2
   refine ⟨⟨i+1,by omega,by go_num,?_,H8.o.2⟩,by simp [intOf];omega⟩
   rw [HE.o,List.length_append,zgT,iM.o];exact H8.o.1
  have HE:=Hy (show (V.take (i+1)).foldl zn X=F0 by rw [HI.o.2.2.1];unfold zn;rw [if_pos aX])
  clear aX
  go_wp2
  refine ⟨⟨i+1,by omega,by go_num,?_,H7.o.2⟩,by simp [intOf];omega⟩
  rw [HE.o,iM.o];exact H7.o.1):p:=h
theorem znn {p:Prop} (h:p:=by
 have lr:k<L.length:=by rw [jO.o];omega
 have d1:=(aq.cell (p:=⟨g,k*2,none⟩) bZ).trans (HC.o k Om lr)
 have jI:=zjr (zdx.2 (uN.o k se lr))
 obtain ⟨nm,aJ⟩:=Ex (L[k].1)
 rw [aJ] at d1 jI
 clear hb aq y1 aJ
 go_wp2_with fail
 go_quiet (fail)
 have eM:=Hy (zae HB.o.1 nq)
 go_wp2
 exact ⟨⟨k+1,by omega,by go_num,eM.o⟩,by simp [intOf];omega⟩):p:=h
theorem zno {p:Prop} (h:p:=by
 rcases hr.2 with ⟨e,_⟩ | ⟨g',cap',cur,e,_,hg,_⟩
 ·cases e
 injection e with e1 e2 e3
 injection e1 with e1
 injection e1 with e1 _ _
 subst e1
 exact zi hg):p:=h
theorem znp {p:Prop} (h:p:=by
 rw [el.o]
 exact zbB (zcV eI.o k) (zbB (zgz (zu fi.o.1 ij.o.2)) (zcW eI.o (k+1)))):p:=h
theorem znq {p:Prop} (h:p:=by
 rw [el.o]
 exact zbB (zcV eI.o k) (zbB (zbQ _) (zcW eI.o (k+1)))):p:=h
theorem zvt (L:List Atr) (Lq:List (Bs × Value)) (t:Bs) (V:List (Bs)) (B g n cap:Nat) (av:Value) (w:World) (hq:zad w Lq L) (hr:w.ownsRow B 74 2 (.slice (some ⟨g,0,none⟩) n cap) n (zm Lq)) (hn:L.length=n) (hV:TxR w av V) (dV:n<=100000) (js:V.length<=100000)
  (sG:∀ a∈L,a.2.length<=100000) (hK:zs L t<L.length) (he:L[zs L t].1=t) (dP:¬ cap=zs L t+1) :
  Calls prog 127 #[.slice (some ⟨g,0,none⟩) n cap,.agg #[.string ⟨t.toArray⟩,av]] w (zdW (zZ L t V) w):=by
 have HQ:=Hy hq
 have HR:=Hy hr
 have jO:=Hy hn
 have hA:∀ k,zs L t=k->∀ h:k<L.length,L[k].1=t/\¬ L[k].1<t/\zaF L t=L[k].2:=by rintro k rfl h;exact ⟨he,zc3 hK,by unfold zaF;rw [dif_pos hK,if_pos he]⟩
 have hB:∀ k,zs L t=k->∀ j,j<k->∀ hj:j<L.length,L[j].1<t:=by rintro k rfl j h hj;exact zcr j h hj
 obtain ⟨X,hX⟩:=Ex (zaF L t)
 have qK:X.length<=100000:=by
  rw [<- hX];unfold zaF;rw [dif_pos hK,if_pos he]
  exact sG _ (List.getElem_mem hK)
 have hP:∀ k,zs L t=k->zZ L t V=L.take k++((if V.foldl zn X=[] then [] else [(t,V.foldl zn X)])++L.drop (k+1)):=by
  rintro k rfl
  rw [<- hX];unfold zZ zcq;rw [dif_pos hK,if_pos he]
 obtain ⟨R,kf⟩:=Ex (zZ L t V)
 rw [kf] at hP ⊢
 clear he
 obtain ⟨K,fg⟩:=Ex (zs L t)
 rw [fg] at hK dP
 have uO:=hA K fg hK
 rw [hX] at uO
 have qj:=Hy uO
 have uN:=Hy (hB K fg)
 have gd:=Hy (hP K fg)
 clear hA hB hP fg uO
 have oM:K<n:=by omega
 have bM:n<=cap:=by
  rcases hr.2 with ⟨e,_⟩ | ⟨g',cap',cur,e,_,_,h,_⟩
  ·cases e
  injection e with e1 e2 e3
  omega
 have ii:=Hy qK
 have qh:=hV
 obtain ⟨va,vc,rfl,kc⟩:=hV
 have HV:=Hy kc
 obtain ⟨m,hm⟩:=Ex V.length
 have l7:=Hy hm
 have qi:=Hy (show (V.take m).foldl zn X=V.foldl zn X by rw [<- hm,List.take_length])
 have sA:=Hy (fun i hi=>zex (X:=X) (V:=V) i hi)
 have mb:=Hy (fun i=>show ((V.take i).foldl zn X).length<=200000 by
  have h1:=zey X (V.take i)
  have h2:=ii.o
  rw [List.length_take] at h1
  omega)
 rw [hm] at js ⊢
 obtain ⟨W1,aB⟩:=Ex (w.alloc (.cells #[.string ⟨t.toArray⟩,.slice va m vc] 74))
 have k1:=Nb aB
 have x1:=Nw aB
 have fd:=Hy (An k1 x1)
 have br:=Hy aB
 have kz:=hq.1
 have bZ:g<w.heap.size:=by
  exact zno
 have HC:=Hy (fun j (hj:j<n) (iG:j<L.length)=>show w.cell? ⟨g,j*2,none⟩=some (.string ⟨L[j].1.toArray⟩) by
  obtain ⟨h1,_⟩:=zca Lq j Om
  rw [<- (hq.2 j Om iG).1]
  exact (hr.cellAt _ Om).trans h1)
 clear kc hm hX qK aB sG k1 x1 hq hr qh kf
 go_enter func127,ntmps127
 go_wp2
 rw [br.o]
 go_loopw [5] (fun v wr=>∃ k:Nat,k<=K/\v=.int .i64 (k:Nat)/\Below W1.heap.size W1 wr) (fun v _=>K - (intOf v).toNat)
 case atStart=>exact ⟨0,by omega,rfl,Br _⟩
 case round =>
  obtain ⟨k,hk,rfl,hb⟩:=hrel
  have y1:=Ob fd.o.2 hb
  obtain ⟨b0,b1⟩:=zf y1
  have aq:=fd.o.1.trans (hb.mono fd.o.1.size)
  have HB:=Hy (An hb aq)
  by_cases se:k<K
  ·have bh:(k:Int)<(n:Int):=by omega
   exact znn
  obtain rfl:k=K:=by omega
  have bh:(k:Int)<(n:Int):=by omega
  have d1:=(aq.cell (p:=⟨g,k*2,none⟩) bZ).trans (HC.o k oM hK)
  have jI:=zjs (show ltB L[k].1 t=false by
   cases h:ltB L[k].1 t
   ·rfl
   exact absurd (zdx.1 h) qj.o.2.1)
  have sH:k<Lq.length:=by omega
  have hz:Lq[k].1=L[k].1/\TxR w Lq[k].2 L[k].2/\zam Lq[k].2:=by obtain ⟨z1,BZ,zo⟩:=HQ.o.2 k sH hK;exact ⟨z1,zaL zo,zfw zo⟩
  rw [<- qj.o.2.2] at hz
  obtain ⟨xv,rj⟩:=Ex (Lq[k].2)
  have w1:=(aq.cell (p:=⟨g,k*2+1,none⟩) bZ).trans ((HR.o.cellAt (k*2+1) Om).trans ((zca Lq k sH).2))
  rw [rj] at w1 hz
  have Ct:=Hy hz.2
  obtain ⟨_,⟨xa,xc,rfl,_⟩,_⟩:=hz
  rw [qj.o.1] at d1 jI
  clear hb aq rj
  go_wp2_with fail
  go_quiet (fail)
  obtain ⟨W2,aL⟩:=Ex (wr.drewN nq)
  rw [aL]
  have k2:Below wr.heap.size wr W2:=by rw [<- aL];exact zae (Br _) nq
  have d2:=(k2.cell (p:=⟨g,k*2,none⟩) (Lib.lt_of_cell d1)).trans d1
  have w2:=(k2.cell (p:=⟨g,k*2+1,none⟩) (Lib.lt_of_cell w1)).trans w1
  have y2:=Ob y1 k2
  obtain ⟨W3,cU⟩:=Ex (W2.alloc (.cells #[.string ⟨t.toArray⟩,.slice none 0 0] 74))
  have k3:=Nb cU
  have z3:=Nw cU
  have y3:=Ob y2 k3
  have d3:=(k3.cell (p:=⟨g,k*2,none⟩) (Lib.lt_of_cell d2)).trans d2
  have w3:=(k3.cell (p:=⟨g,k*2+1,none⟩) (Lib.lt_of_cell w2)).trans w2
  obtain ⟨bX,dw⟩:=Ex W2.heap.size
  have l9:=Hy (show w.heap.size<bX by rw [<- dw];exact zi y2)
  have cx:=Hy (HB.o.2.trans ((k2.trans (k3.mono k2.size)).mono HB.o.2.size))
  rw [dw] at z3
  have gk:=Hy (An y3 z3)
  have rf:=Hy cU
  have jh:=Hy dw
  clear b0 b1 d1 w1 aL cU dw z3 y3 k2 k3
  obtain ⟨b0,b1⟩:=zf y2
  have D3:=Hy (An d3 w3)
  have In:¬ cap=k:=by omega
  clear d3 w3 y1 y2
  go_wp2_with fail
  rw [rf.o,jh.o]
  clear b0 b1 d2 w2
  have d3:=D3.o.1
  have w3:=D3.o.2
  have y3:=gk.o.1
  have z3:=gk.o.2
  obtain ⟨b0,b1⟩:=zf y3
  obtain ⟨i0,i1⟩:=zf z3
  clear y3 z3
  go_quiet (fail)
  obtain ⟨pf,kR⟩:=Ex (W3.drewN nq)
  rw [kR]
  have k4:Below W3.heap.size W3 pf:=by rw [<- kR];exact zae (Br _) nq
  have y4:=Ob gk.o.1 k4
  have z4:=Ob gk.o.2 k4
  have ph:=cx.o.trans (k4.mono cx.o.size)
  have d4:=(k4.cell (p:=⟨g,k*2,none⟩) (Lib.lt_of_cell d3)).trans d3
  have w4:=(k4.cell (p:=⟨g,k*2+1,none⟩) (Lib.lt_of_cell w3)).trans w3
  obtain ⟨W4,dk⟩:=Ex ((pf.setCell ⟨bX,0,none⟩ (.string ⟨t.toArray⟩)).setCell ⟨bX,1,none⟩ (.slice xa X.length xc))
  have ql:W4.heap[bX]?=some (.cells #[.string ⟨t.toArray⟩,.slice xa X.length xc] 74 (0,0)):=by rw [<- dk];exact zci z4 _ _
  have kS:Chg (fun k=>k=bX) pf W4:=by rw [<- dk];exact ((Chg.refl (fun k=>k=bX) pf).setCell (p:=⟨bX,0,none⟩) (fun _=>rfl) _).setCell (p:=⟨bX,1,none⟩) (fun _=>rfl) _
  have Cu:=zV (w:=pf) y4 kS (by have:=l9.o;omega)
  have ai:Below w.heap.size w W4:=ph.trans (kS.toBelow ph.size (fun k _ e=>by have:=l9.o;omega))
  have d5:=Hy (An ai (An Cu ql))
  have kw:=Hy dk
  clear b0 b1 i0 i1 d3 w3 dk kR k4 ql kS Cu ai ph
  obtain ⟨b0,b1⟩:=zf y4
  obtain ⟨i0,i1⟩:=zf z4
  have fr0:=zc z4 0
  have fr1:=zc z4 1
  clear y4 z4
  have jP:=(zf d5.o.2.2).1
  have jQ:=(zf d5.o.2.2).2
  go_wp2_with (first
   | (at_builtin;(try rw [kw.o]);refine zaf rfl (.tmp 57) (.tmp 59) 47 9 rfl W4.heap.size 1 16 (.string ByteArray.empty) Tryz.scinfo9 underlying47 rfl De (.slice none 0 0) 0 [] rfl (World.ownsRow_nil _ _ _ _) _ X.length (sc X) rfl ?c3 (zcD _) ?c1 ?c2 Lr ?_)
   | go_in)
  case c3=>exact zdt (zec Ct.o.1 Ct.o.2) d5.o.1
  try (case c1=>have:=ii.o;unfold maxLen;omega)
  try (case c2=>have:=ii.o;omega)
  intro v1 w5 g1 g2 g3
  obtain ⟨oa,oc,rfl⟩:=zh g1
  have ai:=zc2 g2
  have g1:w5.ownsRow W4.heap.size 9 1 (.slice oa X.length oc) X.length (sc X):=by simpa using g1
  have lu:0+X.length=X.length:=Nat.zero_add _
  try rw [lu]
  have H5:=Hy (An g1 ai)
  clear g1 g2 g3 ai lu
  go_wp2
  go_loopw [8,9] (fun o v wr=>∃ i:Nat,i<=m/\v=.int .i64 (i:Nat)/\wr.ownsRow W4.heap.size 9 1 o ((V.take i).foldl zn X).length (sc ((V.take i).foldl zn X))/\Below W4.heap.size W4 wr) (fun _ v _=>m - (intOf v).toNat)
  case atStart=>exact ⟨0,by omega,rfl,H5.o.1,H5.o.2⟩
  case round =>
   obtain ⟨i,hi,rfl,ab,hb⟩:=hrel
   have y0:=Ob d5.o.2.1 hb
   have y1:=Ob d5.o.2.2 hb
   obtain ⟨p0,p1⟩:=zf y0
   obtain ⟨q0,q1⟩:=zf y1
   have aq:=d5.o.1.trans (hb.mono d5.o.1.size)
   by_cases aj:i<m
   ·exact znm
   obtain rfl:i=m:=by omega
   have hT:=qi.o
   rw [hT] at ab
   have ew:=mb.o i
   rw [hT] at ew
   obtain ⟨FV,fE⟩:=Ex (V.foldl zn X)
   have lw:=Hy fE
   rw [fE] at ab ew
   obtain ⟨fa,fc,rfl⟩:=zh ab
   have sF:=zc y1 1
   have x8:=zH y1 1 (.slice fa FV.length fc)
   have bj:Chg (fun k=>k=bX) wr (wr.setCell ⟨bX,1,none⟩ (.slice fa FV.length fc)):=(Chg.refl (fun k=>k=bX) wr).setCell (p:=⟨bX,1,none⟩) (fun _=>rfl) _
   have aD:W4.heap.size<=wr.heap.size:=hb.size
   have eJ:=zi d5.o.2.2
   have iz:=zz ab bj (fun k hk e=>by have:=(ab.lt k hk).1;omega)
   have bz:Below w.heap.size w (wr.setCell ⟨bX,1,none⟩ (.slice fa FV.length fc)):=aq.trans (bj.toBelow aq.size (fun k _ e=>by have:=l9.o;omega))
   obtain ⟨W8,dU⟩:=Ex (wr.setCell ⟨bX,1,none⟩ (.slice fa FV.length fc))
   rw [dU] at x8 iz bz
   have pd:=Hy dU
   have lX:=Hy x8
   have fi:=Hy (An iz (An bz ew))
   have gl:=Hy (zaT HQ.o bz)
   have jp:=Hy (zu HR.o bz)
   clear ab hb aq y0 y1 hT ew fE x8 bj aD eJ iz bz dU q0
   go_wp2_with (first
    | (at_builtin;(try rw [pd.o]);refine zaf rfl (.tmp 99) (.tmp 102) 37 74 rfl W8.heap.size 2 40 (.agg #[.string ByteArray.empty,.slice none 0 0]) Tryz.sninfo74 underlying37 rfl De (.slice none 0 0) 0 [] rfl (World.ownsRow_nil _ _ _ _) _ (k) (zm (Lq.take k)) rfl ?c3 ?c4 ?c1 ?c2 Lr ?_)
    | go_in)
   case c3=>exact zgA jp.o k Om
   case c4=>exact zcm (zcV gl.o k)
   try (case c1=>unfold maxLen;omega)
   try (case c2=>omega)
   intro v1 w9 g1 g2 g3
   have bv:=zc2 g2
   have g1:w9.ownsRow W8.heap.size 74 2 v1 (k) (zm (Lq.take k)):=by simpa using g1
   obtain ⟨a9,c9,rfl⟩:=zh g1
   have x9:=Ob lX.o bv
   obtain ⟨r0,r1⟩:=zf x9
   have H9:=Hy (An g1 bv)
   have me:=Hy (zu jp.o bv)
   have eI:=Hy (zaT gl.o bv)
   clear g1 g2 g3 bv x9 q1
   by_cases fR:FV.length=0
   ·have ri:¬ ((0:Int)<(FV.length:Int)):=by omega
    have el:=Hy (show R=L.take k++(([] : List Atr)++L.drop (k+1)) by rw [gd.o,lw.o,if_pos (List.eq_nil_of_length_eq_zero fR)])
    go_wp2_with (first
     | (at_builtin;refine zaf rfl (.tmp 111) (.tmp 112) 37 74 rfl W8.heap.size 2 40 (.agg #[.string ByteArray.empty,.slice none 0 0]) Tryz.sninfo74 underlying37 rfl De _ (k) _ rfl H9.o.1 _ (n - (k+1)) (zm (Lq.drop (k+1))) rfl ?c3r ?c4r ?c1r ?c2r H9.o.2.size ?_)
     | go_in)
    case c3r=>first | exact zew me.o (k+1) _ Om | exact zdr _ _ _ _ (List.drop_of_length_le Om)
    case c4r=>exact zcm (w:=w9) (zcW eI.o (k+1))
    try (case c1r=>unfold maxLen;omega)
    try (case c2r=>omega)
    intro v2 fG g1 g2 g3
    have aZ:=zbm H9.o.2 H9.o.2.size H9.o.1 g2
    obtain ⟨fU,c10,rfl⟩:=zh g1
    have lz:=Hy (An g1 aZ)
    have kP:=zaT gl.o aZ
    have eI:=Hy kP
    have kz:=HQ.o.1
    have fs:=jO.o
    clear g1 g2 g3 aZ
    go_wp2
    go_ret
    refine ⟨_,rfl,⟨(Lq.take k)++(([] : List (Bs × Value))++(Lq.drop (k+1))),W8.heap.size,?_,?_⟩,fi.o.2.1.trans (lz.o.2.mono fi.o.2.1.size)⟩
    ·exact znq
    have e:R.length=k+(n - (k+1)):=by rw [el.o];simp;try omega
    rw [e,List.nil_append,zaJ];exact lz.o.1
   have ri:(0:Int)<(FV.length:Int):=by omega
   have el:=Hy (show R=L.take k++([(t,FV)]++L.drop (k+1)) by rw [gd.o,lw.o,if_neg (fun e=>fR (by rw [e];rfl))])
   go_wp2_with (first
    | (at_builtin;refine zaj rfl (.tmp 107) (.tmp 109) 37 74 rfl W8.heap.size 2 40 (.agg #[.string ByteArray.empty,.slice none 0 0]) Tryz.sninfo74 underlying37 rfl De 1 [.string ⟨t.toArray⟩,.slice fa FV.length fc] rfl ?c0p _ _ _ rfl _ rfl ?c3p H9.o.1 ?c1p ?c2p H9.o.2.size ?_)
    | go_in)
   case c0p=>intro u hu;simp at hu;rcases hu with rfl | rfl <;> rfl
   try (case c1p=>unfold maxLen;omega)
   try (case c2p=>omega)
   case c3p=>first | rfl | simp
   intro v2 fG g1 g2
   obtain ⟨fU,c10,rfl⟩:=zh g1
   have aZ:=H9.o.2.trans g2
   have HG:=Hy (An g1 aZ)
   have me:=Hy (zu jp.o aZ)
   have eI:=Hy (zaT gl.o aZ)
   clear g1 g2 aZ r0 r1
   go_wp2_with (first
    | (at_builtin;refine zaf rfl (.tmp 111) (.tmp 112) 37 74 rfl W8.heap.size 2 40 (.agg #[.string ByteArray.empty,.slice none 0 0]) Tryz.sninfo74 underlying37 rfl De _ _ _ rfl HG.o.1 _ (n - (k+1)) (zm (Lq.drop (k+1))) rfl ?c3q ?c4q ?c1q ?c2q HG.o.2.size ?_)
    | go_in)
   case c3q=>first | exact zew me.o (k+1) _ Om | exact zdr _ _ _ _ (List.drop_of_length_le Om)
   case c4q=>exact zcm (w:=fG) (zcW eI.o (k+1))
   try (case c1q=>unfold maxLen;omega)
   try (case c2q=>omega)
   intro v3 Cs g1 g2 g3
   have dH:=zbm HG.o.2 HG.o.2.size HG.o.1 g2
   obtain ⟨EO,c11,rfl⟩:=zh g1
   have ij:=Hy (An g1 dH)
   have kQ:=zaT gl.o dH
   have eI:=Hy kQ
   have kz:=HQ.o.1
   have fs:=jO.o
   clear g1 g2 g3 dH
   go_wp2
   go_ret
   refine ⟨_,rfl,⟨(Lq.take k)++([(t,.slice fa FV.length fc)]++(Lq.drop (k+1))),W8.heap.size,?_,?_⟩,fi.o.2.1.trans (ij.o.2.mono fi.o.2.1.size)⟩
   ·exact znp
   have e:R.length=k+1+(n - (k+1)):=by rw [el.o];simp;try omega
   rw [e,zaJ,zaJ];exact ij.o.1
theorem zvu (K:Nat) (L:List Atr) (Lq:List (Bs × Value)) (t:Bs) (V:List (Bs)) (B g:Nat) (av:Value) (w:World) (hq:zad w Lq L) (hr:w.ownsRow B 74 2 (.slice (some ⟨g,0,none⟩) (K+1) (K+1)) (K+1) (zm Lq)) (hn:L.length=K+1) (hV:TxR w av V) (dV:(K+1)<=100000) (js:V.length<=100000)
  (sG:∀ a∈L,a.2.length<=100000) (hK:zs L t<L.length) (he:L[zs L t].1=t) (fg:zs L t=K) :
  Calls prog 127 #[.slice (some ⟨g,0,none⟩) (K+1) (K+1),.agg #[.string ⟨t.toArray⟩,av]] w (zdW (zZ L t V) w):=by
 have HQ:=Hy hq
 have HR:=Hy hr
 have jO:=Hy hn
 have hA:∀ k,zs L t=k->∀ h:k<L.length,L[k].1=t/\¬ L[k].1<t/\zaF L t=L[k].2:=by rintro k rfl h;exact ⟨he,zc3 hK,by unfold zaF;rw [dif_pos hK,if_pos he]⟩
 have hB:∀ k,zs L t=k->∀ j,j<k->∀ hj:j<L.length,L[j].1<t:=by rintro k rfl j h hj;exact zcr j h hj
 obtain ⟨X,hX⟩:=Ex (zaF L t)
 have qK:X.length<=100000:=by
  rw [<- hX];unfold zaF;rw [dif_pos hK,if_pos he]
  exact sG _ (List.getElem_mem hK)
 have hP:∀ k,zs L t=k->zZ L t V=L.take k++((if V.foldl zn X=[] then [] else [(t,V.foldl zn X)])++L.drop (k+1)):=by
  rintro k rfl
  rw [<- hX];unfold zZ zcq;rw [dif_pos hK,if_pos he]
 obtain ⟨R,kf⟩:=Ex (zZ L t V)
 rw [kf] at hP ⊢
 clear he
 rw [fg] at hK
 have uO:=hA K fg hK
 rw [hX] at uO
 have qj:=Hy uO
 have uN:=Hy (hB K fg)
 have gd:=Hy (hP K fg)
 clear hA hB hP fg uO
 have oM:K<(K+1):=by omega
 have bM:(K+1)<=(K+1):=by
  rcases hr.2 with ⟨e,_⟩ | ⟨g',cap',cur,e,_,_,h,_⟩
  ·cases e
  exact Nat.le_refl _
 have ii:=Hy qK
 have qh:=hV
 obtain ⟨va,vc,rfl,kc⟩:=hV
 have HV:=Hy kc
 obtain ⟨m,hm⟩:=Ex V.length
 have l7:=Hy hm
 have qi:=Hy (show (V.take m).foldl zn X=V.foldl zn X by rw [<- hm,List.take_length])
 have sA:=Hy (fun i hi=>zex (X:=X) (V:=V) i hi)
 have mb:=Hy (fun i=>show ((V.take i).foldl zn X).length<=200000 by
  have h1:=zey X (V.take i)
  have h2:=ii.o
  rw [List.length_take] at h1
  omega)
 rw [hm] at js ⊢
 obtain ⟨W1,aB⟩:=Ex (w.alloc (.cells #[.string ⟨t.toArray⟩,.slice va m vc] 74))
 have k1:=Nb aB
 have x1:=Nw aB
 have fd:=Hy (An k1 x1)
 have br:=Hy aB
 have kz:=hq.1
 have bZ:g<w.heap.size:=by
  exact zno
 have HC:=Hy (fun j (hj:j<(K+1)) (iG:j<L.length)=>show w.cell? ⟨g,j*2,none⟩=some (.string ⟨L[j].1.toArray⟩) by
  obtain ⟨h1,_⟩:=zca Lq j Om
  rw [<- (hq.2 j Om iG).1]
  exact (hr.cellAt _ Om).trans h1)
 clear kc hm hX qK aB sG k1 x1 hq hr qh kf
 go_enter func127,ntmps127
 go_wp2
 rw [br.o]
 go_loopw [5] (fun v wr=>∃ k:Nat,k<=K/\v=.int .i64 (k:Nat)/\Below W1.heap.size W1 wr) (fun v _=>K - (intOf v).toNat)
 case atStart=>exact ⟨0,by omega,rfl,Br _⟩
 case round =>
  obtain ⟨k,hk,rfl,hb⟩:=hrel
  have y1:=Ob fd.o.2 hb
  obtain ⟨b0,b1⟩:=zf y1
  have aq:=fd.o.1.trans (hb.mono fd.o.1.size)
  have HB:=Hy (An hb aq)
  by_cases se:k<K
  ·have bh:(k:Int)<(K:Int)+1:=by omega
   exact znn
  obtain rfl:k=K:=by omega
  have bh:(k:Int)<(k:Int)+1:=by omega
  have d1:=(aq.cell (p:=⟨g,k*2,none⟩) bZ).trans (HC.o k oM hK)
  have jI:=zjs (show ltB L[k].1 t=false by
   cases h:ltB L[k].1 t
   ·rfl
   exact absurd (zdx.1 h) qj.o.2.1)
  have sH:k<Lq.length:=by omega
  have hz:Lq[k].1=L[k].1/\TxR w Lq[k].2 L[k].2/\zam Lq[k].2:=by obtain ⟨z1,BZ,zo⟩:=HQ.o.2 k sH hK;exact ⟨z1,zaL zo,zfw zo⟩
  rw [<- qj.o.2.2] at hz
  obtain ⟨xv,rj⟩:=Ex (Lq[k].2)
  have w1:=(aq.cell (p:=⟨g,k*2+1,none⟩) bZ).trans ((HR.o.cellAt (k*2+1) Om).trans ((zca Lq k sH).2))
  rw [rj] at w1 hz
  have Ct:=Hy hz.2
  obtain ⟨_,⟨xa,xc,rfl,_⟩,_⟩:=hz
  rw [qj.o.1] at d1 jI
  clear hb aq rj
  go_wp2_with fail
  go_quiet (fail)
  obtain ⟨W2,aL⟩:=Ex (wr.drewN nq)
  rw [aL]
  have k2:Below wr.heap.size wr W2:=by rw [<- aL];exact zae (Br _) nq
  have d2:=(k2.cell (p:=⟨g,k*2,none⟩) (Lib.lt_of_cell d1)).trans d1
  have w2:=(k2.cell (p:=⟨g,k*2+1,none⟩) (Lib.lt_of_cell w1)).trans w1
  have y2:=Ob y1 k2
  obtain ⟨W3,cU⟩:=Ex (W2.alloc (.cells #[.string ⟨t.toArray⟩,.slice none 0 0] 74))
  have k3:=Nb cU
  have z3:=Nw cU
  have y3:=Ob y2 k3
  have d3:=(k3.cell (p:=⟨g,k*2,none⟩) (Lib.lt_of_cell d2)).trans d2
  have w3:=(k3.cell (p:=⟨g,k*2+1,none⟩) (Lib.lt_of_cell w2)).trans w2
  obtain ⟨bX,dw⟩:=Ex W2.heap.size
  have l9:=Hy (show w.heap.size<bX by rw [<- dw];exact zi y2)
  have cx:=Hy (HB.o.2.trans ((k2.trans (k3.mono k2.size)).mono HB.o.2.size))
  rw [dw] at z3
  have gk:=Hy (An y3 z3)
  have rf:=Hy cU
  have jh:=Hy dw
  clear b0 b1 d1 w1 aL cU dw z3 y3 k2 k3
  obtain ⟨b0,b1⟩:=zf y2
  have D3:=Hy (An d3 w3)
  have In:¬ (k+1)=k:=by omega
  clear d3 w3 y1 y2
  go_wp2_with fail
  rw [rf.o,jh.o]
  clear b0 b1 d2 w2
  have d3:=D3.o.1
  have w3:=D3.o.2
  have y3:=gk.o.1
  have z3:=gk.o.2
  obtain ⟨b0,b1⟩:=zf y3
  obtain ⟨i0,i1⟩:=zf z3
  clear y3 z3
  go_quiet (fail)
  obtain ⟨pf,kR⟩:=Ex (W3.drewN nq)
  rw [kR]
  have k4:Below W3.heap.size W3 pf:=by rw [<- kR];exact zae (Br _) nq
  have y4:=Ob gk.o.1 k4
  have z4:=Ob gk.o.2 k4
  have ph:=cx.o.trans (k4.mono cx.o.size)
  have d4:=(k4.cell (p:=⟨g,k*2,none⟩) (Lib.lt_of_cell d3)).trans d3
  have w4:=(k4.cell (p:=⟨g,k*2+1,none⟩) (Lib.lt_of_cell w3)).trans w3
  obtain ⟨W4,dk⟩:=Ex ((pf.setCell ⟨bX,0,none⟩ (.string ⟨t.toArray⟩)).setCell ⟨bX,1,none⟩ (.slice xa X.length xc))
  have ql:W4.heap[bX]?=some (.cells #[.string ⟨t.toArray⟩,.slice xa X.length xc] 74 (0,0)):=by rw [<- dk];exact zci z4 _ _
  have kS:Chg (fun k=>k=bX) pf W4:=by rw [<- dk];exact ((Chg.refl (fun k=>k=bX) pf).setCell (p:=⟨bX,0,none⟩) (fun _=>rfl) _).setCell (p:=⟨bX,1,none⟩) (fun _=>rfl) _
  have Cu:=zV (w:=pf) y4 kS (by have:=l9.o;omega)
  have ai:Below w.heap.size w W4:=ph.trans (kS.toBelow ph.size (fun k _ e=>by have:=l9.o;omega))
  have d5:=Hy (An ai (An Cu ql))
  have kw:=Hy dk
  clear b0 b1 i0 i1 d3 w3 dk kR k4 ql kS Cu ai ph
  obtain ⟨b0,b1⟩:=zf y4
  obtain ⟨i0,i1⟩:=zf z4
  have fr0:=zc z4 0
  have fr1:=zc z4 1
  clear y4 z4
  have jP:=(zf d5.o.2.2).1
  have jQ:=(zf d5.o.2.2).2
  go_wp2_with (first
   | (at_builtin;(try rw [kw.o]);refine zaf rfl (.tmp 57) (.tmp 59) 47 9 rfl W4.heap.size 1 16 (.string ByteArray.empty) Tryz.scinfo9 underlying47 rfl De (.slice none 0 0) 0 [] rfl (World.ownsRow_nil _ _ _ _) _ X.length (sc X) rfl ?c3 (zcD _) ?c1 ?c2 Lr ?_)
   | go_in)
  case c3=>exact zdt (zec Ct.o.1 Ct.o.2) d5.o.1
  try (case c1=>have:=ii.o;unfold maxLen;omega)
  try (case c2=>have:=ii.o;omega)
  intro v1 w5 g1 g2 g3
  obtain ⟨oa,oc,rfl⟩:=zh g1
  have ai:=zc2 g2
  have g1:w5.ownsRow W4.heap.size 9 1 (.slice oa X.length oc) X.length (sc X):=by simpa using g1
  have lu:0+X.length=X.length:=Nat.zero_add _
  try rw [lu]
  have H5:=Hy (An g1 ai)
  clear g1 g2 g3 ai lu
  go_wp2
  go_loopw [8,9] (fun o v wr=>∃ i:Nat,i<=m/\v=.int .i64 (i:Nat)/\wr.ownsRow W4.heap.size 9 1 o ((V.take i).foldl zn X).length (sc ((V.take i).foldl zn X))/\Below W4.heap.size W4 wr) (fun _ v _=>m - (intOf v).toNat)
  case atStart=>exact ⟨0,by omega,rfl,H5.o.1,H5.o.2⟩
  case round =>
   obtain ⟨i,hi,rfl,ab,hb⟩:=hrel
   have y0:=Ob d5.o.2.1 hb
   have y1:=Ob d5.o.2.2 hb
   obtain ⟨p0,p1⟩:=zf y0
   obtain ⟨q0,q1⟩:=zf y1
   have aq:=d5.o.1.trans (hb.mono d5.o.1.size)
   by_cases aj:i<m
   ·exact znm
   obtain rfl:i=m:=by omega
   have hT:=qi.o
   rw [hT] at ab
   have ew:=mb.o i
   rw [hT] at ew
   obtain ⟨FV,fE⟩:=Ex (V.foldl zn X)
   have lw:=Hy fE
   rw [fE] at ab ew
   obtain ⟨fa,fc,rfl⟩:=zh ab
   have sF:=zc y1 1
   have x8:=zH y1 1 (.slice fa FV.length fc)
   have bj:Chg (fun k=>k=bX) wr (wr.setCell ⟨bX,1,none⟩ (.slice fa FV.length fc)):=(Chg.refl (fun k=>k=bX) wr).setCell (p:=⟨bX,1,none⟩) (fun _=>rfl) _
   have aD:W4.heap.size<=wr.heap.size:=hb.size
   have eJ:=zi d5.o.2.2
   have iz:=zz ab bj (fun k hk e=>by have:=(ab.lt k hk).1;omega)
   have bz:Below w.heap.size w (wr.setCell ⟨bX,1,none⟩ (.slice fa FV.length fc)):=aq.trans (bj.toBelow aq.size (fun k _ e=>by have:=l9.o;omega))
   obtain ⟨W8,dU⟩:=Ex (wr.setCell ⟨bX,1,none⟩ (.slice fa FV.length fc))
   rw [dU] at x8 iz bz
   have pd:=Hy dU
   have lX:=Hy x8
   have fi:=Hy (An iz (An bz ew))
   have gl:=Hy (zaT HQ.o bz)
   have jp:=Hy (zu HR.o bz)
   clear ab hb aq y0 y1 hT ew fE x8 bj aD eJ iz bz dU q0
   go_wp2_with (first
    | (at_builtin;(try rw [pd.o]);refine zaf rfl (.tmp 99) (.tmp 102) 37 74 rfl W8.heap.size 2 40 (.agg #[.string ByteArray.empty,.slice none 0 0]) Tryz.sninfo74 underlying37 rfl De (.slice none 0 0) 0 [] rfl (World.ownsRow_nil _ _ _ _) _ (k) (zm (Lq.take k)) rfl ?c3 ?c4 ?c1 ?c2 Lr ?_)
    | go_in)
   case c3=>exact zgA jp.o k Om
   case c4=>exact zcm (zcV gl.o k)
   try (case c1=>unfold maxLen;omega)
   try (case c2=>omega)
   intro v1 w9 g1 g2 g3
   have bv:=zc2 g2
   have g1:w9.ownsRow W8.heap.size 74 2 v1 (k) (zm (Lq.take k)):=by simpa using g1
   obtain ⟨a9,c9,rfl⟩:=zh g1
   have x9:=Ob lX.o bv
   obtain ⟨r0,r1⟩:=zf x9
   have H9:=Hy (An g1 bv)
   have me:=Hy (zu jp.o bv)
   have eI:=Hy (zaT gl.o bv)
   clear g1 g2 g3 bv x9 q1
   by_cases fR:FV.length=0
   ·have ri:¬ ((0:Int)<(FV.length:Int)):=by omega
    have el:=Hy (show R=L.take k++(([] : List Atr)++L.drop (k+1)) by rw [gd.o,lw.o,if_pos (List.eq_nil_of_length_eq_zero fR)])
    go_wp2_with (first
     | (at_builtin;refine zaf rfl (.tmp 111) (.tmp 112) 37 74 rfl W8.heap.size 2 40 (.agg #[.string ByteArray.empty,.slice none 0 0]) Tryz.sninfo74 underlying37 rfl De _ (k) _ rfl H9.o.1 _ (0) (zm (Lq.drop (k+1))) rfl ?c3r ?c4r ?c1r ?c2r H9.o.2.size ?_)
     | go_in)
    case c3r=>first | exact zew me.o (k+1) _ Om | exact zdr _ _ _ _ (List.drop_of_length_le Om)
    case c4r=>exact zcm (w:=w9) (zcW eI.o (k+1))
    try (case c1r=>unfold maxLen;omega)
    try (case c2r=>omega)
    intro v2 fG g1 g2 g3
    have aZ:=zbm H9.o.2 H9.o.2.size H9.o.1 g2
    obtain ⟨fU,c10,rfl⟩:=zh g1
    have lz:=Hy (An g1 aZ)
    have kP:=zaT gl.o aZ
    have eI:=Hy kP
    have kz:=HQ.o.1
    have fs:=jO.o
    clear g1 g2 g3 aZ
    go_wp2
    go_ret
    refine ⟨_,rfl,⟨(Lq.take k)++(([] : List (Bs × Value))++(Lq.drop (k+1))),W8.heap.size,?_,?_⟩,fi.o.2.1.trans (lz.o.2.mono fi.o.2.1.size)⟩
    ·exact znq
    have e:R.length=k+(0):=by rw [el.o];simp;try omega
    rw [e,List.nil_append,zaJ];exact lz.o.1
   have ri:(0:Int)<(FV.length:Int):=by omega
   have el:=Hy (show R=L.take k++([(t,FV)]++L.drop (k+1)) by rw [gd.o,lw.o,if_neg (fun e=>fR (by rw [e];rfl))])
   go_wp2_with (first
    | (at_builtin;refine zaj rfl (.tmp 107) (.tmp 109) 37 74 rfl W8.heap.size 2 40 (.agg #[.string ByteArray.empty,.slice none 0 0]) Tryz.sninfo74 underlying37 rfl De 1 [.string ⟨t.toArray⟩,.slice fa FV.length fc] rfl ?c0p _ _ _ rfl _ rfl ?c3p H9.o.1 ?c1p ?c2p H9.o.2.size ?_)
    | go_in)
   case c0p=>intro u hu;simp at hu;rcases hu with rfl | rfl <;> rfl
   try (case c1p=>unfold maxLen;omega)
   try (case c2p=>omega)
   case c3p=>first | rfl | simp
   intro v2 fG g1 g2
   obtain ⟨fU,c10,rfl⟩:=zh g1
   have aZ:=H9.o.2.trans g2
   have HG:=Hy (An g1 aZ)
   have me:=Hy (zu jp.o aZ)
   have eI:=Hy (zaT gl.o aZ)
   clear g1 g2 aZ r0 r1
   go_wp2_with (first
    | (at_builtin;refine zaf rfl (.tmp 111) (.tmp 112) 37 74 rfl W8.heap.size 2 40 (.agg #[.string ByteArray.empty,.slice none 0 0]) Tryz.sninfo74 underlying37 rfl De _ _ _ rfl HG.o.1 _ (0) (zm (Lq.drop (k+1))) rfl ?c3q ?c4q ?c1q ?c2q HG.o.2.size ?_)
    | go_in)
   case c3q=>first | exact zew me.o (k+1) _ Om | exact zdr _ _ _ _ (List.drop_of_length_le Om)
   case c4q=>exact zcm (w:=fG) (zcW eI.o (k+1))
   try (case c1q=>unfold maxLen;omega)
   try (case c2q=>omega)
   intro v3 Cs g1 g2 g3
   have dH:=zbm HG.o.2 HG.o.2.size HG.o.1 g2
   obtain ⟨EO,c11,rfl⟩:=zh g1
   have ij:=Hy (An g1 dH)
   have kQ:=zaT gl.o dH
   have eI:=Hy kQ
   have kz:=HQ.o.1
   have fs:=jO.o
   clear g1 g2 g3 dH
   go_wp2
   go_ret
   refine ⟨_,rfl,⟨(Lq.take k)++([(t,.slice fa FV.length fc)]++(Lq.drop (k+1))),W8.heap.size,?_,?_⟩,fi.o.2.1.trans (ij.o.2.mono fi.o.2.1.size)⟩
   ·exact znp
   have e:R.length=k+1+(0):=by rw [el.o];simp;try omega
   rw [e,zaJ,zaJ];exact ij.o.1
theorem zvv (L:List Atr) (t:Bs) (V:List (Bs)) (lv av:Value) (w:World) (h:zC w lv L) (hV:TxR w av V) (hl:L.length<=100000) (sG:∀ a∈L,a.2.length<=100000) (js:V.length<=100000) :
  Calls prog 127 #[lv,.agg #[.string ⟨t.toArray⟩,av]] w (zdW (zZ L t V) w):=by
 obtain ⟨Lq,B,hq,hr⟩:=h
 rcases hr.2 with ⟨rfl,h0⟩ | ⟨g,cap,cur,rfl,_,_,hc,_⟩
 ·have:L=[]:=List.eq_nil_of_length_eq_zero h0
  subst this
  exact zvs t V av w hV js
 by_cases hK:zs L t<L.length
 ·by_cases he:L[zs L t].1=t
  ·by_cases dP:cap=zs L t+1
   ·have hn:L.length=zs L t+1:=by omega
    have iy:w.ownsRow B 74 2 (.slice (some ⟨g,0,none⟩) (zs L t+1) (zs L t+1)) (zs L t+1) (zm Lq):=by
     rw [hn,dP] at hr;exact hr
    rw [hn,dP]
    exact zvu (zs L t) L Lq t V B g av w hq iy hn hV Om js sG hK he rfl
   exact zvt L Lq t V B g L.length cap av w hq hr rfl hV hl js sG hK he dP
  exact zvp L Lq t V B g L.length cap av w hq hr rfl hV hl js hK he
 have oE:zs L t=L.length:=by have:=zoh L t;omega
 by_cases dP:cap=L.length
 ·subst dP
  exact zvq L Lq t V B g L.length av w hq hr rfl hV hl js oE
 exact zvr L Lq t V B g L.length cap av w hq hr rfl hV hl js oE dP
end Go.Proofs.YtijglbolppkefaaGreatDoor
