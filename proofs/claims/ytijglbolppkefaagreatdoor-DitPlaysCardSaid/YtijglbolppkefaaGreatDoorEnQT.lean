/- Attributes in a row that is. -/
import Derived.Test.YtijglbolppkefaaGreatDoorMDqJ
import Derived.Test.YtijglbolppkefaaGreatDoorMEnAB
set_option linter.unusedVariables false
set_option linter.unusedSimpArgs false
set_option maxHeartbeats 25600000
set_option maxRecDepth 100000
namespace Go.Proofs.YtijglbolppkefaaGreatDoor
open Go.Proofs.Tryz
open Go Go.RowKit Go.Proofs.BerK Go.Proofs.MemK Go.Proofs.UtfK
variable {w w' : World} {Lq : List (Bs × Value)} {L : List Atr} {B cap g n : Nat} {V : List (Bs)} {v : Value}
theorem znj {p:Prop} (h:p:=by
 have HC:=Hy (fun j (hj:j<n) (iG:j<L.length)=>show w.cell? ⟨g,j*2,none⟩=some (.string ⟨L[j].1.toArray⟩) by
  obtain ⟨h1,_⟩:=zca Lq j Om
  rw [<- (hq.2 j Om iG).1]
  exact (hr.cellAt _ Om).trans h1)
 clear kc hm hX ke aB k1 x1 hq hr qh kf
 go_enter func127,ntmps127
 go_wp2
 rw [br.o]
 go_loopw [5] (fun v wr=>∃ k:Nat,k<=n/\v=.int .i64 (k:Nat)/\Below W1.heap.size W1 wr) (fun v _=>n - (intOf v).toNat)
 case atStart=>exact ⟨0,by omega,rfl,Br _⟩
 case round =>
  obtain ⟨k,hk,rfl,hb⟩:=hrel
  have y1:=Ob fd.o.2 hb
  obtain ⟨b0,b1⟩:=zf y1
  have aq:=fd.o.1.trans (hb.mono fd.o.1.size)
  have HB:=Hy (An hb aq)
  by_cases se:k<n
  ·have bh:(k:Int)<(n:Int):=by omega
   have lr:k<L.length:=by rw [jO.o];omega
   have d1:=(aq.cell (p:=⟨g,k*2,none⟩) bZ).trans (HC.o k Om lr)
   have jI:=zjr (zdx.2 (uN.o k se lr))
   obtain ⟨nm,aJ⟩:=Ex (L[k].1)
   rw [aJ] at d1 jI
   clear hb aq y1 aJ
   go_wp2_with fail
   go_quiet (fail)
   have eM:=Hy (zae HB.o.1 nq)
   go_wp2
   exact ⟨⟨k+1,by omega,by go_num,eM.o⟩,by simp [intOf];omega⟩
  obtain rfl:k=n:=by omega
  have bh:¬ ((k:Int)<(k:Int)):=by omega
  clear hb aq
  go_wp2_with fail
  go_quiet (fail)
  obtain ⟨W2,aL⟩:=Ex (wr.drewN nq)
  rw [aL]
  have k2:Below wr.heap.size wr W2:=by rw [<- aL];exact zae (Br _) nq
  have y2:=Ob y1 k2
  obtain ⟨W3,cU⟩:=Ex (W2.alloc (.cells #[.string ⟨t.toArray⟩,.slice none 0 0] 74))
  have k3:=Nb cU
  have z3:=Nw cU
  have y3:=Ob y2 k3
  obtain ⟨bX,dw⟩:=Ex W2.heap.size
  have l9:=Hy (show w.heap.size<bX by rw [<- dw];exact zi y2)
  have cx:=Hy (HB.o.2.trans ((k2.trans (k3.mono k2.size)).mono HB.o.2.size))
  rw [dw] at z3
  have gk:=Hy (An y3 z3)
  have rf:=Hy cU
  have jh:=Hy dw
  clear b0 b1 aL cU dw z3 y3 k2 k3
  obtain ⟨b0,b1⟩:=zf y2
  clear y1 y2
  go_wp2_with fail
  rw [rf.o,jh.o]
  clear b0 b1
  have y3:=gk.o.1
  have z3:=gk.o.2
  obtain ⟨b0,b1⟩:=zf y3
  obtain ⟨i0,i1⟩:=zf z3
  clear y3 z3
  go_quiet (fail)
  obtain ⟨W4,dk⟩:=Ex (W3.drewN nq)
  rw [dk]
  have k4:Below W3.heap.size W3 W4:=by rw [<- dk];exact zae (Br _) nq
  have y4:=Ob gk.o.1 k4
  have z4:=Ob gk.o.2 k4
  have d5:=Hy (An (cx.o.trans (k4.mono cx.o.size)) (An y4 z4))
  have kw:=Hy (rfl:W4=W4)
  clear b0 b1 i0 i1 dk k4
  obtain ⟨b0,b1⟩:=zf y4
  obtain ⟨i0,i1⟩:=zf z4
  clear y4 z4
  go_wp2_with (first
   | (at_builtin;(try rw [kw.o]);refine zaf rfl (.tmp 57) (.tmp 59) 47 9 rfl W4.heap.size 1 16 (.string ByteArray.empty) Tryz.scinfo9 underlying47 rfl De (.slice none 0 0) 0 [] rfl (World.ownsRow_nil _ _ _ _) _ X.length (sc X) rfl ?c3 (zcD _) ?c1 ?c2 Lr ?_)
   | go_in)
  case c3=>rw [pT.o];exact zdu _ _
  try (case c1=>have:=ii.o;unfold maxLen;omega)
  try (case c2=>have:=ii.o;omega)
  intro v1 w5 g1 g2 g3
  obtain ⟨oa,oc,rfl⟩:=zh g1
  have ai:=zc2 g2
  have g1:w5.ownsRow W4.heap.size 9 1 (.slice oa X.length oc) X.length (sc X):=by simpa using g1
  have lu:0+X.length=X.length:=Nat.zero_add _
  try rw [lu]
  have H5:=Hy (An g1 ai)
  clear g1 g2 g3 ai lu
  go_wp2
  go_loopw [8,9] (fun o v wr=>∃ i:Nat,i<=m/\v=.int .i64 (i:Nat)/\wr.ownsRow W4.heap.size 9 1 o ((V.take i).foldl zn X).length (sc ((V.take i).foldl zn X))/\Below W4.heap.size W4 wr) (fun _ v _=>m - (intOf v).toNat)
  case atStart=>exact ⟨0,by omega,rfl,H5.o.1,H5.o.2⟩
  case round =>
   obtain ⟨i,hi,rfl,ab,hb⟩:=hrel
   have y0:=Ob d5.o.2.1 hb
   have y1:=Ob d5.o.2.2 hb
   obtain ⟨p0,p1⟩:=zf y0
   obtain ⟨q0,q1⟩:=zf y1
   have aq:=d5.o.1.trans (hb.mono d5.o.1.size)
   by_cases aj:i<m
   ·have cW:(i:Int)<(m:Int):=by omega
    have sy:i<V.length:=by rw [l7.o];exact aj
    obtain ⟨gv,ov,rfl,rh,aU⟩:=HV.o i sy
    have e0:=(aq.cell (p:=⟨gv,ov+i,none⟩) rh).trans aU
    have bm:=sA.o i sy
    have ew:=mb.o i
    obtain ⟨y,hy⟩:=Ex (V[i])
    rw [hy] at e0 bm
    obtain ⟨F0,hF⟩:=Ex ((V.take i).foldl zn X)
    rw [hF] at ab bm ew
    have eK:=zaL ab
    obtain ⟨fa,fc,rfl,sC⟩:=eK
    have Cq:=Hy sC
    have HI:=Hy (An ab (An hb (An bm (An ew (zi0 (F:=F0) (y:=y))))))
    have Cr:=Hy (show inL (F0.take F0.length) y=inL F0 y by rw [List.take_length])
    obtain ⟨nf,o8⟩:=Ex F0.length
    have iM:=Hy o8
    rw [o8]
    clear ab hb bm aq y0 y1 aU sC hy hF o8 q0 q1
    go_wp2
    go_loopw [10,11] (fun s v wz=>∃ j q:Nat,j<=nf/\v=.int .i64 (j:Nat)/\s=.bool (inL (F0.take j) y)/\wz=wr.drewN q) (fun _ v _=>nf - (intOf v).toNat)
    case atStart=>exact ⟨0,0,by omega,rfl,rfl,rfl⟩
    case round =>
     obtain ⟨j,q,hj,rfl,rfl,rfl⟩:=hrel
     by_cases p5:j<nf
     ·have lT:(j:Int)<(nf:Int):=by omega
      have sD:j<F0.length:=by rw [iM.o];exact p5
      obtain ⟨gf,of,rfl,Mn,f0⟩:=Cq.o j sD
      have hs:=HI.o.2.2.2.2 j sD
      obtain ⟨z,hz⟩:=Ex (F0[j])
      rw [hz] at f0 hs
      obtain ⟨b,aX⟩:=Ex (inL (F0.take j) y)
      rw [aX] at hs
      have HS:=Hy hs
      rw [aX]
      clear hz aX hs
      cases b
      ·obtain ⟨c,hc⟩:=Ex (z==y)
       have HC:=Hy hc
       cases c
       ·go_wp2
        go_quiet (fail)
        go_wp2
        exact ⟨⟨j+1,q+nq,by omega,by go_num,by rw [HS.o,HC.o];rfl,rfl⟩,by simp [intOf];omega⟩
       go_wp2
       go_quiet (fail)
       go_wp2
       exact ⟨⟨j+1,q+nq,by omega,by go_num,by rw [HS.o,HC.o];rfl,rfl⟩,by simp [intOf];omega⟩
      go_wp2
      go_quiet (fail)
      go_wp2
      exact ⟨⟨j+1,q+nq,by omega,by go_num,by rw [HS.o];rfl,rfl⟩,by simp [intOf];omega⟩
     obtain rfl:j=nf:=by omega
     have hT:=Cr.o
     rw [iM.o] at hT
     rw [hT]
     obtain ⟨b,aX⟩:=Ex (inL F0 y)
     rw [aX]
     obtain ⟨W7,aT⟩:=Ex (wr.drewN q)
     have aR:Below wr.heap.size wr W7:=by rw [<- aT];exact zae (Br _) _
     have Mo:=(aR.cell (p:=⟨w.heap.size,0,none⟩) (Lib.lt_of_cell p0)).trans p0
     have Mp:=(aR.cell (p:=⟨w.heap.size,1,none⟩) (Lib.lt_of_cell p1)).trans p1
     have Mr:=(aR.cell (p:=⟨gv,ov+i,none⟩) (Lib.lt_of_cell e0)).trans e0
     have o9:=zu HI.o.1 aR
     rw [iM.o] at o9
     have H7:=Hy (An o9 (HI.o.2.1.trans (aR.mono HI.o.2.1.size)))
     have Ms:j<=200000:=by rw [<- iM.o];exact HI.o.2.2.2.1
     rw [aT]
     clear hT aT aR p0 p1 e0 o9
     cases b
     ·have HE:=Hy (show (V.take (i+1)).foldl zn X=F0++[y] by rw [HI.o.2.2.1];unfold zn;rw [if_neg (by rw [aX];simp)])
      clear aX
      go_wp2_with (first
       | (at_builtin;refine zaj rfl (.tmp 89) (.tmp 95) 47 9 rfl W4.heap.size 1 16 (.string ByteArray.empty) Tryz.scinfo9 underlying47 rfl De 1 [.string ⟨y.toArray⟩] rfl ?c0 _ _ _ rfl _ rfl ?c3 H7.o.1 ?c1 ?c2 H7.o.2.size ?_)
       | go_in)
      case c0=>first | rfl | (intro u hu;simp at hu;subst hu;rfl)
      try (case c1=>unfold maxLen;omega)
      try (case c2=>omega)
      case c3=>first | rfl | simp
      intro v' w' g1 g2
      have H8:=Hy (An g1 (H7.o.2.trans g2))
      clear g1 g2
      go_wp2
      refine ⟨⟨i+1,by omega,by go_num,?_,H8.o.2⟩,by simp [intOf];omega⟩
      rw [HE.o,List.length_append,zgT,iM.o];exact H8.o.1
     have HE:=Hy (show (V.take (i+1)).foldl zn X=F0 by rw [HI.o.2.2.1];unfold zn;rw [if_pos aX])
     clear aX
     go_wp2
     refine ⟨⟨i+1,by omega,by go_num,?_,H7.o.2⟩,by simp [intOf];omega⟩
     rw [HE.o,iM.o];exact H7.o.1
   obtain rfl:i=m:=by omega
   have hT:=qi.o
   rw [hT] at ab
   have ew:=mb.o i
   rw [hT] at ew
   obtain ⟨FV,fE⟩:=Ex (V.foldl zn X)
   have lw:=Hy fE
   rw [fE] at ab ew
   obtain ⟨fa,fc,rfl⟩:=zh ab
   have sF:=zc y1 1
   have x8:=zH y1 1 (.slice fa FV.length fc)
   have bj:Chg (fun k=>k=bX) wr (wr.setCell ⟨bX,1,none⟩ (.slice fa FV.length fc)):=(Chg.refl (fun k=>k=bX) wr).setCell (p:=⟨bX,1,none⟩) (fun _=>rfl) _
   have aD:W4.heap.size<=wr.heap.size:=hb.size
   have eJ:=zi d5.o.2.2
   have iz:=zz ab bj (fun k hk e=>by have:=(ab.lt k hk).1;omega)
   have bz:Below w.heap.size w (wr.setCell ⟨bX,1,none⟩ (.slice fa FV.length fc)):=aq.trans (bj.toBelow aq.size (fun k _ e=>by have:=l9.o;omega))
   obtain ⟨W8,dU⟩:=Ex (wr.setCell ⟨bX,1,none⟩ (.slice fa FV.length fc))
   rw [dU] at x8 iz bz
   have pd:=Hy dU
   have lX:=Hy x8
   have fi:=Hy (An iz (An bz ew))
   have gl:=Hy (zaT HQ.o bz)
   have jp:=Hy (zu HR.o bz)
   clear ab hb aq y0 y1 hT ew fE x8 bj aD eJ iz bz dU q0
   go_wp2_with (first
    | (at_builtin;(try rw [pd.o]);refine zaf rfl (.tmp 99) (.tmp 102) 37 74 rfl W8.heap.size 2 40 (.agg #[.string ByteArray.empty,.slice none 0 0]) Tryz.sninfo74 underlying37 rfl De (.slice none 0 0) 0 [] rfl (World.ownsRow_nil _ _ _ _) _ (k) (zm (Lq.take k)) rfl ?c3 ?c4 ?c1 ?c2 Lr ?_)
    | go_in)
   case c3=>exact zgA jp.o k Om
   case c4=>exact zcm (zcV gl.o k)
   try (case c1=>unfold maxLen;omega)
   try (case c2=>omega)
   intro v1 w9 g1 g2 g3
   have bv:=zc2 g2
   have g1:w9.ownsRow W8.heap.size 74 2 v1 (k) (zm (Lq.take k)):=by simpa using g1
   obtain ⟨a9,c9,rfl⟩:=zh g1
   have x9:=Ob lX.o bv
   obtain ⟨r0,r1⟩:=zf x9
   have H9:=Hy (An g1 bv)
   have me:=Hy (zu jp.o bv)
   have eI:=Hy (zaT gl.o bv)
   clear g1 g2 g3 bv x9 q1
   by_cases fR:FV.length=0
   ·have ri:¬ ((0:Int)<(FV.length:Int)):=by omega
    have el:=Hy (show R=L.take k++(([] : List Atr)++([] : List Atr)) by rw [gd.o,lw.o,if_pos (List.eq_nil_of_length_eq_zero fR)])
    go_wp2_with (first
     | (at_builtin;refine zaf rfl (.tmp 111) (.tmp 112) 37 74 rfl W8.heap.size 2 40 (.agg #[.string ByteArray.empty,.slice none 0 0]) Tryz.sninfo74 underlying37 rfl De _ (k) _ rfl H9.o.1 _ (0) (zm ([] : List (Bs × Value))) rfl ?c3r ?c4r ?c1r ?c2r H9.o.2.size ?_)
     | go_in)
    case c3r=>first | exact zdr _ _ _ _ rfl | (simp only [Nat.sub_self];exact zdr _ _ _ _ rfl)
    case c4r=>exact zcm (w:=w9) (zbQ _)
    try (case c1r=>unfold maxLen;omega)
    try (case c2r=>omega)
    intro v2 fG g1 g2 g3
    have aZ:=zbm H9.o.2 H9.o.2.size H9.o.1 g2
    obtain ⟨fU,c10,rfl⟩:=zh g1
    have lz:=Hy (An g1 aZ)
    have kP:=zaT gl.o aZ
    have eI:=Hy kP
    have kz:=HQ.o.1
    have fs:=jO.o
    clear g1 g2 g3 aZ
    go_wp2
    go_ret
    refine ⟨_,rfl,⟨(Lq.take k)++(([] : List (Bs × Value))++([] : List (Bs × Value))),W8.heap.size,?_,?_⟩,fi.o.2.1.trans (lz.o.2.mono fi.o.2.1.size)⟩
    ·rw [el.o]
     exact zbB (zcV eI.o k) (zbB (zbQ _) (zbQ _))
    have e:R.length=k+(0):=by rw [el.o];simp;try omega
    rw [e,List.nil_append,zaJ];exact lz.o.1
   have ri:(0:Int)<(FV.length:Int):=by omega
   have el:=Hy (show R=L.take k++([(t,FV)]++([] : List Atr)) by rw [gd.o,lw.o,if_neg (fun e=>fR (by rw [e];rfl))])
   go_wp2_with (first
    | (at_builtin;refine zaj rfl (.tmp 107) (.tmp 109) 37 74 rfl W8.heap.size 2 40 (.agg #[.string ByteArray.empty,.slice none 0 0]) Tryz.sninfo74 underlying37 rfl De 1 [.string ⟨t.toArray⟩,.slice fa FV.length fc] rfl ?c0p _ _ _ rfl _ rfl ?c3p H9.o.1 ?c1p ?c2p H9.o.2.size ?_)
    | go_in)
   case c0p=>intro u hu;simp at hu;rcases hu with rfl | rfl <;> rfl
   try (case c1p=>unfold maxLen;omega)
   try (case c2p=>omega)
   case c3p=>first | rfl | simp
   intro v2 fG g1 g2
   obtain ⟨fU,c10,rfl⟩:=zh g1
   have aZ:=H9.o.2.trans g2
   have HG:=Hy (An g1 aZ)
   have me:=Hy (zu jp.o aZ)
   have eI:=Hy (zaT gl.o aZ)
   clear g1 g2 aZ r0 r1
   go_wp2_with (first
    | (at_builtin;refine zaf rfl (.tmp 111) (.tmp 112) 37 74 rfl W8.heap.size 2 40 (.agg #[.string ByteArray.empty,.slice none 0 0]) Tryz.sninfo74 underlying37 rfl De _ _ _ rfl HG.o.1 _ (0) (zm ([] : List (Bs × Value))) rfl ?c3q ?c4q ?c1q ?c2q HG.o.2.size ?_)
    | go_in)
   case c3q=>first | exact zdr _ _ _ _ rfl | (simp only [Nat.sub_self];exact zdr _ _ _ _ rfl)
   case c4q=>exact zcm (w:=fG) (zbQ _)
   try (case c1q=>unfold maxLen;omega)
   try (case c2q=>omega)
   intro v3 Cs g1 g2 g3
   have dH:=zbm HG.o.2 HG.o.2.size HG.o.1 g2
   obtain ⟨EO,c11,rfl⟩:=zh g1
   have ij:=Hy (An g1 dH)
   have kQ:=zaT gl.o dH
   have eI:=Hy kQ
   have kz:=HQ.o.1
   have fs:=jO.o
   clear g1 g2 g3 dH
   go_wp2
   go_ret
   refine ⟨_,rfl,⟨(Lq.take k)++([(t,.slice fa FV.length fc)]++([] : List (Bs × Value))),W8.heap.size,?_,?_⟩,fi.o.2.1.trans (ij.o.2.mono fi.o.2.1.size)⟩
   ·rw [el.o]
    exact zbB (zcV eI.o k) (zbB (zgz (zu fi.o.1 ij.o.2)) (zbQ _))
   have e:R.length=k+1+(0):=by rw [el.o];simp;try omega
   rw [e,zaJ,zaJ];exact ij.o.1):p:=h
theorem znk {p:Prop} (h:p:=by
 have cW:(i:Int)<(m:Int):=by omega
 have sy:i<V.length:=by rw [l7.o];exact aj
 obtain ⟨gv,ov,rfl,rh,aU⟩:=HV.o i sy
 have e0:=(aq.cell (p:=⟨gv,ov+i,none⟩) rh).trans aU
 have bm:=sA.o i sy
 have ew:=mb.o i
 obtain ⟨y,hy⟩:=Ex (V[i])
 rw [hy] at e0 bm
 obtain ⟨F0,hF⟩:=Ex ((V.take i).foldl zn X)
 rw [hF] at ab bm ew
 have eK:=zaL ab
 obtain ⟨fa,fc,rfl,sC⟩:=eK
 have Cq:=Hy sC
 have HI:=Hy (An ab (An hb (An bm (An ew (zi0 (F:=F0) (y:=y))))))
 have Cr:=Hy (show inL (F0.take F0.length) y=inL F0 y by rw [List.take_length])
 obtain ⟨nf,o8⟩:=Ex F0.length
 have iM:=Hy o8
 rw [o8]
 clear ab hb bm aq y0 y1 aU sC hy hF o8 q0 q1
 go_wp2
 go_loopw [10,11] (fun s v wz=>∃ j q:Nat,j<=nf/\v=.int .i64 (j:Nat)/\s=.bool (inL (F0.take j) y)/\wz=wr.drewN q) (fun _ v _=>nf - (intOf v).toNat)
 case atStart=>exact ⟨0,0,by omega,rfl,rfl,rfl⟩
 case round =>
  obtain ⟨j,q,hj,rfl,rfl,rfl⟩:=hrel
  by_cases p5:j<nf
  ·have lT:(j:Int)<(nf:Int):=by omega
   have sD:j<F0.length:=by rw [iM.o];exact p5
   obtain ⟨gf,of,rfl,Mn,f0⟩:=Cq.o j sD
   have hs:=HI.o.2.2.2.2 j sD
   obtain ⟨z,hz⟩:=Ex (F0[j])
   rw [hz] at f0 hs
   obtain ⟨b,aX⟩:=Ex (inL (F0.take j) y)
   rw [aX] at hs
   have HS:=Hy hs
   rw [aX]
   clear hz aX hs
   cases b
   ·obtain ⟨c,hc⟩:=Ex (z==y)
    have HC:=Hy hc
    cases c
    ·go_wp2
     go_quiet (fail)
     go_wp2
     exact ⟨⟨j+1,q+nq,by omega,by go_num,by rw [HS.o,HC.o];rfl,rfl⟩,by simp [intOf];omega⟩
    go_wp2
    go_quiet (fail)
    go_wp2
    exact ⟨⟨j+1,q+nq,by omega,by go_num,by rw [HS.o,HC.o];rfl,rfl⟩,by simp [intOf];omega⟩
   go_wp2
   go_quiet (fail)
   go_wp2
   exact ⟨⟨j+1,q+nq,by omega,by go_num,by rw [HS.o];rfl,rfl⟩,by simp [intOf];omega⟩
  obtain rfl:j=nf:=by omega
  have hT:=Cr.o
  rw [iM.o] at hT
  rw [hT]
  obtain ⟨b,aX⟩:=Ex (inL F0 y)
  rw [aX]
  obtain ⟨W7,aT⟩:=Ex (wr.drewN q)
  have aR:Below wr.heap.size wr W7:=by rw [<- aT];exact zae (Br _) _
  have Mo:=(aR.cell (p:=⟨w.heap.size,0,none⟩) (Lib.lt_of_cell p0)).trans p0
  have Mp:=(aR.cell (p:=⟨w.heap.size,1,none⟩) (Lib.lt_of_cell p1)).trans p1
  have Mr:=(aR.cell (p:=⟨gv,ov+i,none⟩) (Lib.lt_of_cell e0)).trans e0
  have o9:=zu HI.o.1 aR
  rw [iM.o] at o9
  have H7:=Hy (An o9 (HI.o.2.1.trans (aR.mono HI.o.2.1.size)))
  have Ms:j<=200000:=by rw [<- iM.o];exact HI.o.2.2.2.1
  rw [aT]
  clear hT aT aR p0 p1 e0 o9
  cases b
  ·have HE:=Hy (show (V.take (i+1)).foldl zn X=F0++[y] by rw [HI.o.2.2.1];unfold zn;rw [if_neg (by rw [aX];simp)])
   clear aX
   go_wp2_with (first
    | (at_builtin;refine zaj rfl (.tmp 89) (.tmp 95) 47 9 rfl W4.heap.size 1 16 (.string ByteArray.empty) Tryz.scinfo9 underlying47 rfl De 1 [.string ⟨y.toArray⟩] rfl ?c0 _ _ _ rfl _ rfl ?c3 H7.o.1 ?c1 ?c2 H7.o.2.size ?_)
    | go_in)
   case c0=>first | rfl | (intro u hu;simp at hu;subst hu;rfl)
   try (case c1=>unfold maxLen;omega)
   try (case c2=>omega)
   case c3=>first | rfl | simp
   intro v' w' g1 g2
   have H8:=Hy (An g1 (H7.o.2.trans g2))
   clear g1 g2
   go_wp2
   refine ⟨⟨i+1,by omega,by go_num,?_,H8.o.2⟩,by simp [intOf];omega⟩
   rw [HE.o,List.length_append,zgT,iM.o];exact H8.o.1
  have HE:=Hy (show (V.take (i+1)).foldl zn X=F0 by rw [HI.o.2.2.1];unfold zn;rw [if_pos aX])
  clear aX
  go_wp2
  refine ⟨⟨i+1,by omega,by go_num,?_,H7.o.2⟩,by simp [intOf];omega⟩
  rw [HE.o,iM.o];exact H7.o.1):p:=h
theorem ziY {p:Prop} (h:p:=by
 injection e with e1 e2 e3
 injection e1 with e1
 injection e1 with e1 _ _
 subst e1
 exact zi hg):p:=h
theorem znl {p:Prop} (h:p:=by
 rcases hr.2 with ⟨e,_⟩ | ⟨g',cap',cur,e,_,_,h,_⟩
 ·cases e
 injection e with e1 e2 e3
 omega):p:=h
def zad (w:World) (Lq:List (Bs × Value)) (L:List Atr):Prop:=Lq.length=L.length/\∀ i (h1:i<Lq.length) (h2:i<L.length),Lq[i].1=L[i].1/\∃ B,w.ownsRow B 9 1 Lq[i].2 L[i].2.length (sc L[i].2)
theorem zaT (h:zad w Lq L) (hb:Below w.heap.size w w'):zad w' Lq L :=
 ⟨h.1,fun i h1 h2=>⟨(h.2 i h1 h2).1,by obtain ⟨_,B,hB⟩:=h.2 i h1 h2;exact ⟨B,zu hB hb⟩⟩⟩
theorem zbQ (w:World):zad w [] []:=⟨rfl,fun i h1=>by simp at h1⟩
theorem zcV (h:zad w Lq L) (k:Nat):zad w (Lq.take k) (L.take k):=by
 refine ⟨by rw [List.length_take,List.length_take,h.1],fun i h1 h2=>?_⟩
 rw [List.length_take] at h1 h2
 rw [List.getElem_take,List.getElem_take]
 exact h.2 i Om Om
theorem zcW (h:zad w Lq L) (k:Nat):zad w (Lq.drop k) (L.drop k):=by
 refine ⟨by rw [List.length_drop,List.length_drop,h.1],fun i h1 h2=>?_⟩
 rw [List.length_drop] at h1 h2
 rw [List.getElem_drop,List.getElem_drop]
 exact h.2 (k+i) Om Om
theorem zbB {Mq:List (Bs × Value)} {M:List Atr} (h:zad w Lq L) (h2:zad w Mq M):zad w (Lq++Mq) (L++M):=by
 have hl:=h.1
 refine ⟨by rw [List.length_append,List.length_append,h.1,h2.1],fun i i1 i2=>?_⟩
 rw [List.length_append] at i1 i2
 rw [List.getElem_append,List.getElem_append]
 by_cases hi:i<Lq.length
 ·rw [dif_pos hi,dif_pos Om]
  exact h.2 i hi Om
 rw [dif_neg hi,dif_neg Om]
 have:=h2.2 (i - Lq.length) Om Om
 simp only [hl] at this ⊢
 exact this
theorem zgz {t:Bs} (h:w.ownsRow B 9 1 v V.length (sc V)):zad w [(t,v)] [(t,V)]:=by
 refine ⟨rfl,fun i h1 h2=>?_⟩
 have:i=0:=by simp at h1;exact h1
 subst this
 exact ⟨rfl,B,h⟩
theorem zvl (h:zam v):v.oneCell'=true:=by
 rcases h with rfl | ⟨ad,n,c,rfl⟩ <;> rfl
theorem zfw {e:TypeId} {size:Nat} {xs:List Value} (h:w.ownsRow B e size v n xs):zam v:=by
 rcases h.2 with ⟨rfl,rfl⟩ | ⟨g,cap,cur,rfl,_⟩
 ·exact .inl rfl
 exact .inr ⟨_,_,_,rfl⟩
theorem zev (L:List (Bs × Value)):(zm L).length=L.length*2:=by
 induction L with
 | nil=>rfl
 | cons c L ih =>
  have e:zm (c :: L)=.string ⟨c.1.toArray⟩ :: c.2 :: zm L:=rfl
  rw [e];simp only [List.length_cons,ih];omega
theorem zaJ (L M:List (Bs × Value)):zm (L++M)=zm L++zm M:=by simp [zm]
theorem zvm (L:List (Bs × Value)) (k:Nat):zm (L.take k)=(zm L).take (k*2):=by
 induction L generalizing k with
 | nil=>simp [zm]
 | cons c L ih =>
  have e:∀ L,zm (c :: L)=.string ⟨c.1.toArray⟩ :: c.2 :: zm L:=fun _=>rfl
  cases k with
  | zero=>simp [zm]
  | succ k =>
   rw [List.take_succ_cons,e,e,ih,show (k+1)*2=k*2+1+1 by omega,List.take_succ_cons,List.take_succ_cons]
theorem zvn (L:List (Bs × Value)) (k:Nat):zm (L.drop k)=(zm L).drop (k*2):=by
 induction L generalizing k with
 | nil=>simp [zm]
 | cons c L ih =>
  have e:∀ L,zm (c :: L)=.string ⟨c.1.toArray⟩ :: c.2 :: zm L:=fun _=>rfl
  cases k with
  | zero=>simp
  | succ k =>
   rw [List.drop_succ_cons,e,ih,show (k+1)*2=k*2+1+1 by omega,List.drop_succ_cons,List.drop_succ_cons]
theorem zcm (h:zad w Lq L):∀ u∈zm Lq,u.oneCell'=true:=by
 intro u hu
 unfold zm at hu
 obtain ⟨q,hq,hu⟩:=List.mem_flatMap.1 hu
 obtain ⟨i,hi,rfl⟩:=List.mem_iff_getElem.1 hq
 have hl:=h.1
 simp only [List.mem_cons,List.not_mem_nil,or_false] at hu
 rcases hu with rfl | rfl
 ·rfl
 obtain ⟨_,B,hB⟩:=h.2 i hi Om
 exact zvl (zfw hB)
def zC (w:World) (v:Value) (L:List Atr):Prop:=∃ Lq B,zad w Lq L/\w.ownsRow B 74 2 v L.length (zm Lq)
theorem zcn (h:zC w v L) (hb:Below w.heap.size w w'):zC w' v L:=by
 obtain ⟨Lq,B,h1,h2⟩:=h
 exact ⟨Lq,B,zaT h1 hb,zu h2 hb⟩
theorem zvo (w:World):zC w (.slice none 0 0) []:=⟨[],0,zbQ w,World.ownsRow_nil _ _ _ _⟩
theorem ziZ (h:zC w v L):zak w v L:=by
 obtain ⟨Lq,B,hq,h⟩:=h
 refine ⟨zfw h,?_⟩
 have hl:=hq.1
 rcases h.2 with ⟨rfl,h0⟩ | ⟨g,cap,cur,rfl,_,hg,_⟩
 ·exact ⟨none,0,by rw [h0],fun i hi=>by omega⟩
 refine ⟨_,cap,rfl,fun i hi=>?_⟩
 obtain ⟨h1,h2⟩:=zca Lq i Om
 obtain ⟨x1,BB,xo⟩:=hq.2 i Om hi
 have x2:=zaL xo
 have x3:=zfw xo
 refine ⟨g,0,Lq[i].2,rfl,(Array.getElem?_eq_some_iff.1 hg).1,?_,?_,x2,x3⟩
 ·rw [Nat.zero_add,<- x1];exact (h.cellAt _ Om).trans h1
 rw [Nat.zero_add];exact (h.cellAt _ Om).trans h2
def zdW (L:List Atr) (w:World) (en:Ending) (w':World):Prop:=∃ v,en=.returned v/\zC w' v L/\Below w.heap.size w w'
theorem zdr (w:World) (ad:Addr) (c:Nat) (Lq:List (Bs × Value)) (h:Lq=[]):zbl w 2 (.slice (some ad) 0 c) 0 (zm Lq):=by
 subst h
 exact ⟨rfl,.inr ⟨ad,c,rfl,fun j u hj=>by simp [zm] at hj⟩⟩
theorem zgA (h:w.ownsRow B 74 2 (.slice (some ⟨g,0,none⟩) n cap) n (zm Lq)) (k:Nat) (hk:k<=n):zbl w 2 (.slice (some ⟨g,0,none⟩) k cap) k (zm (Lq.take k)):=by
 rw [zvm];exact znJ h k hk
theorem zew (h:w.ownsRow B 74 2 (.slice (some ⟨g,0,none⟩) n cap) n (zm Lq)) (k c:Nat) (hk:k<=n):zbl w 2 (.slice (some ⟨g,k*2,none⟩) (n - k) c) (n - k) (zm (Lq.drop k)):=by
 rw [zvn];exact znK h k c hk
theorem zex {X:List (Bs)} (i:Nat) (hi:i<V.length):(V.take (i+1)).foldl zn X=zn ((V.take i).foldl zn X) V[i]:=by
 rw [List.take_succ_eq_append_getElem hi,List.foldl_append];rfl
theorem zey (X V:List (Bs)):(V.foldl zn X).length<=X.length+V.length:=by
 induction V generalizing X with
 | nil=>simp
 | cons x V ih =>
  have h1:=ih (zn X x)
  have h2:(zn X x).length<=X.length+1:=by unfold zn;split <;> simp
  simp only [List.foldl_cons,List.length_cons]
  omega
theorem zi0 {F:List (Bs)} {y:Bs} (j:Nat) (hj:j<F.length):inL (F.take (j+1)) y=(inL (F.take j) y || F[j]==y):=by
 rw [List.take_succ_eq_append_getElem hj,Bool.eq_iff_iff,zdv,Bool.or_eq_true,zdv,beq_iff_eq,List.mem_append,List.mem_singleton]
 constructor
 ·rintro (h | h)
  ·exact .inl h
  exact .inr h.symm
 rintro (h | h)
 ·exact .inl h
 exact .inr h.symm
theorem zvp (L:List Atr) (Lq:List (Bs × Value)) (t:Bs) (V:List (Bs)) (B g n cap:Nat) (av:Value) (w:World) (hq:zad w Lq L) (hr:w.ownsRow B 74 2 (.slice (some ⟨g,0,none⟩) n cap) n (zm Lq)) (hn:L.length=n) (hV:TxR w av V) (dV:n<=100000) (js:V.length<=100000)
  (hK:zs L t<L.length) (aH:L[zs L t].1≠t) :
  Calls prog 127 #[.slice (some ⟨g,0,none⟩) n cap,.agg #[.string ⟨t.toArray⟩,av]] w (zdW (zZ L t V) w):=by
 have HQ:=Hy hq
 have HR:=Hy hr
 have jO:=Hy hn
 have hA:∀ k,zs L t=k->∀ h:k<L.length,L[k].1≠t/\¬ L[k].1<t:=by rintro k rfl h;exact ⟨aH,zc3 hK⟩
 have hB:∀ k,zs L t=k->∀ j,j<k->∀ hj:j<L.length,L[j].1<t:=by rintro k rfl j h hj;exact zcr j h hj
 obtain ⟨X,hX⟩:=Ex (zaF L t)
 have ke:X=[]:=by rw [<- hX];unfold zaF;rw [dif_pos hK,if_neg aH]
 have hP:∀ k,zs L t=k->zZ L t V=L.take k++((if V.foldl zn X=[] then [] else [(t,V.foldl zn X)])++L.drop k):=by
  rintro k rfl
  rw [<- hX];unfold zZ zcq;rw [dif_pos hK,if_neg aH]
 obtain ⟨R,kf⟩:=Ex (zZ L t V)
 rw [kf] at hP ⊢
 clear aH
 obtain ⟨K,fg⟩:=Ex (zs L t)
 rw [fg] at hK
 have qj:=Hy (hA K fg hK)
 have uN:=Hy (hB K fg)
 have gd:=Hy (hP K fg)
 clear hA hB hP fg
 have oM:K<n:=by omega
 have bM:n<=cap:=by
  exact znl
 have ii:=Hy (show X.length<=100000 by rw [ke];simp)
 have pT:=Hy ke
 have qh:=hV
 obtain ⟨va,vc,rfl,kc⟩:=hV
 have HV:=Hy kc
 obtain ⟨m,hm⟩:=Ex V.length
 have l7:=Hy hm
 have qi:=Hy (show (V.take m).foldl zn X=V.foldl zn X by rw [<- hm,List.take_length])
 have sA:=Hy (fun i hi=>zex (X:=X) (V:=V) i hi)
 have mb:=Hy (fun i=>show ((V.take i).foldl zn X).length<=200000 by
  have h1:=zey X (V.take i)
  have h2:=ii.o
  rw [List.length_take] at h1
  omega)
 rw [hm] at js ⊢
 obtain ⟨W1,aB⟩:=Ex (w.alloc (.cells #[.string ⟨t.toArray⟩,.slice va m vc] 74))
 have k1:=Nb aB
 have x1:=Nw aB
 have fd:=Hy (An k1 x1)
 have br:=Hy aB
 have kz:=hq.1
 have bZ:g<w.heap.size:=by
  rcases hr.2 with ⟨e,_⟩ | ⟨g',cap',cur,e,_,hg,_⟩
  ·cases e
  exact ziY
 have HC:=Hy (fun j (hj:j<n) (iG:j<L.length)=>show w.cell? ⟨g,j*2,none⟩=some (.string ⟨L[j].1.toArray⟩) by
  obtain ⟨h1,_⟩:=zca Lq j Om
  rw [<- (hq.2 j Om iG).1]
  exact (hr.cellAt _ Om).trans h1)
 clear kc hm hX ke aB k1 x1 hq hr qh kf
 go_enter func127,ntmps127
 go_wp2
 rw [br.o]
 go_loopw [5] (fun v wr=>∃ k:Nat,k<=K/\v=.int .i64 (k:Nat)/\Below W1.heap.size W1 wr) (fun v _=>K - (intOf v).toNat)
 case atStart=>exact ⟨0,by omega,rfl,Br _⟩
 case round =>
  obtain ⟨k,hk,rfl,hb⟩:=hrel
  have y1:=Ob fd.o.2 hb
  obtain ⟨b0,b1⟩:=zf y1
  have aq:=fd.o.1.trans (hb.mono fd.o.1.size)
  have HB:=Hy (An hb aq)
  by_cases se:k<K
  ·have bh:(k:Int)<(n:Int):=by omega
   have lr:k<L.length:=by rw [jO.o];omega
   have d1:=(aq.cell (p:=⟨g,k*2,none⟩) bZ).trans (HC.o k Om lr)
   have jI:=zjr (zdx.2 (uN.o k se lr))
   obtain ⟨nm,aJ⟩:=Ex (L[k].1)
   rw [aJ] at d1 jI
   clear hb aq y1 aJ
   go_wp2_with fail
   go_quiet (fail)
   have eM:=Hy (zae HB.o.1 nq)
   go_wp2
   exact ⟨⟨k+1,by omega,by go_num,eM.o⟩,by simp [intOf];omega⟩
  obtain rfl:k=K:=by omega
  have bh:(k:Int)<(n:Int):=by omega
  have d1:=(aq.cell (p:=⟨g,k*2,none⟩) bZ).trans (HC.o k oM hK)
  have jI:=zjs (show ltB L[k].1 t=false by
   cases h:ltB L[k].1 t
   ·rfl
   exact absurd (zdx.1 h) qj.o.2)
  have LE:(L[k].1==t)=false:=by rw [beq_eq_false_iff_ne];exact qj.o.1
  obtain ⟨nm,aJ⟩:=Ex (L[k].1)
  rw [aJ] at d1 jI LE
  clear hb aq aJ
  go_wp2_with fail
  go_quiet (fail)
  obtain ⟨W2,aL⟩:=Ex (wr.drewN nq)
  rw [aL]
  have k2:Below wr.heap.size wr W2:=by rw [<- aL];exact zae (Br _) nq
  have d2:=(k2.cell (p:=⟨g,k*2,none⟩) (Lib.lt_of_cell d1)).trans d1
  have y2:=Ob y1 k2
  obtain ⟨W3,cU⟩:=Ex (W2.alloc (.cells #[.string ⟨t.toArray⟩,.slice none 0 0] 74))
  have k3:=Nb cU
  have z3:=Nw cU
  have y3:=Ob y2 k3
  have d3:=(k3.cell (p:=⟨g,k*2,none⟩) (Lib.lt_of_cell d2)).trans d2
  obtain ⟨bX,dw⟩:=Ex W2.heap.size
  have l9:=Hy (show w.heap.size<bX by rw [<- dw];exact zi y2)
  have cx:=Hy (HB.o.2.trans ((k2.trans (k3.mono k2.size)).mono HB.o.2.size))
  rw [dw] at z3
  have gk:=Hy (An y3 z3)
  have rf:=Hy cU
  have jh:=Hy dw
  clear b0 b1 d1 aL cU dw z3 y3 k2 k3
  obtain ⟨b0,b1⟩:=zf y2
  have D3:=Hy d3
  have dP:¬ cap=k:=by omega
  clear d3 y1 y2
  go_wp2_with fail
  rw [rf.o,jh.o]
  clear b0 b1 d2
  have d3:=D3.o
  have y3:=gk.o.1
  have z3:=gk.o.2
  obtain ⟨b0,b1⟩:=zf y3
  obtain ⟨i0,i1⟩:=zf z3
  clear y3 z3
  go_quiet (fail)
  obtain ⟨W4,dk⟩:=Ex (W3.drewN nq)
  rw [dk]
  have k4:Below W3.heap.size W3 W4:=by rw [<- dk];exact zae (Br _) nq
  have y4:=Ob gk.o.1 k4
  have z4:=Ob gk.o.2 k4
  have d5:=Hy (An (cx.o.trans (k4.mono cx.o.size)) (An y4 z4))
  have kw:=Hy (rfl:W4=W4)
  clear b0 b1 i0 i1 d3 dk k4
  obtain ⟨b0,b1⟩:=zf y4
  obtain ⟨i0,i1⟩:=zf z4
  clear y4 z4
  go_wp2_with (first
   | (at_builtin;(try rw [kw.o]);refine zaf rfl (.tmp 57) (.tmp 59) 47 9 rfl W4.heap.size 1 16 (.string ByteArray.empty) Tryz.scinfo9 underlying47 rfl De (.slice none 0 0) 0 [] rfl (World.ownsRow_nil _ _ _ _) _ X.length (sc X) rfl ?c3 (zcD _) ?c1 ?c2 Lr ?_)
   | go_in)
  case c3=>rw [pT.o];exact zdu _ _
  try (case c1=>have:=ii.o;unfold maxLen;omega)
  try (case c2=>have:=ii.o;omega)
  intro v1 w5 g1 g2 g3
  obtain ⟨oa,oc,rfl⟩:=zh g1
  have ai:=zc2 g2
  have g1:w5.ownsRow W4.heap.size 9 1 (.slice oa X.length oc) X.length (sc X):=by simpa using g1
  have lu:0+X.length=X.length:=Nat.zero_add _
  try rw [lu]
  have H5:=Hy (An g1 ai)
  clear g1 g2 g3 ai lu
  go_wp2
  go_loopw [8,9] (fun o v wr=>∃ i:Nat,i<=m/\v=.int .i64 (i:Nat)/\wr.ownsRow W4.heap.size 9 1 o ((V.take i).foldl zn X).length (sc ((V.take i).foldl zn X))/\Below W4.heap.size W4 wr) (fun _ v _=>m - (intOf v).toNat)
  case atStart=>exact ⟨0,by omega,rfl,H5.o.1,H5.o.2⟩
  case round =>
   obtain ⟨i,hi,rfl,ab,hb⟩:=hrel
   have y0:=Ob d5.o.2.1 hb
   have y1:=Ob d5.o.2.2 hb
   obtain ⟨p0,p1⟩:=zf y0
   obtain ⟨q0,q1⟩:=zf y1
   have aq:=d5.o.1.trans (hb.mono d5.o.1.size)
   by_cases aj:i<m
   ·exact znk
   obtain rfl:i=m:=by omega
   have hT:=qi.o
   rw [hT] at ab
   have ew:=mb.o i
   rw [hT] at ew
   obtain ⟨FV,fE⟩:=Ex (V.foldl zn X)
   have lw:=Hy fE
   rw [fE] at ab ew
   obtain ⟨fa,fc,rfl⟩:=zh ab
   have sF:=zc y1 1
   have x8:=zH y1 1 (.slice fa FV.length fc)
   have bj:Chg (fun k=>k=bX) wr (wr.setCell ⟨bX,1,none⟩ (.slice fa FV.length fc)):=(Chg.refl (fun k=>k=bX) wr).setCell (p:=⟨bX,1,none⟩) (fun _=>rfl) _
   have aD:W4.heap.size<=wr.heap.size:=hb.size
   have eJ:=zi d5.o.2.2
   have iz:=zz ab bj (fun k hk e=>by have:=(ab.lt k hk).1;omega)
   have bz:Below w.heap.size w (wr.setCell ⟨bX,1,none⟩ (.slice fa FV.length fc)):=aq.trans (bj.toBelow aq.size (fun k _ e=>by have:=l9.o;omega))
   obtain ⟨W8,dU⟩:=Ex (wr.setCell ⟨bX,1,none⟩ (.slice fa FV.length fc))
   rw [dU] at x8 iz bz
   have pd:=Hy dU
   have lX:=Hy x8
   have fi:=Hy (An iz (An bz ew))
   have gl:=Hy (zaT HQ.o bz)
   have jp:=Hy (zu HR.o bz)
   clear ab hb aq y0 y1 hT ew fE x8 bj aD eJ iz bz dU q0
   go_wp2_with (first
    | (at_builtin;(try rw [pd.o]);refine zaf rfl (.tmp 99) (.tmp 102) 37 74 rfl W8.heap.size 2 40 (.agg #[.string ByteArray.empty,.slice none 0 0]) Tryz.sninfo74 underlying37 rfl De (.slice none 0 0) 0 [] rfl (World.ownsRow_nil _ _ _ _) _ (k) (zm (Lq.take k)) rfl ?c3 ?c4 ?c1 ?c2 Lr ?_)
    | go_in)
   case c3=>exact zgA jp.o k Om
   case c4=>exact zcm (zcV gl.o k)
   try (case c1=>unfold maxLen;omega)
   try (case c2=>omega)
   intro v1 w9 g1 g2 g3
   have bv:=zc2 g2
   have g1:w9.ownsRow W8.heap.size 74 2 v1 (k) (zm (Lq.take k)):=by simpa using g1
   obtain ⟨a9,c9,rfl⟩:=zh g1
   have x9:=Ob lX.o bv
   obtain ⟨r0,r1⟩:=zf x9
   have H9:=Hy (An g1 bv)
   have me:=Hy (zu jp.o bv)
   have eI:=Hy (zaT gl.o bv)
   clear g1 g2 g3 bv x9 q1
   by_cases fR:FV.length=0
   ·have ri:¬ ((0:Int)<(FV.length:Int)):=by omega
    have el:=Hy (show R=L.take k++(([] : List Atr)++L.drop k) by rw [gd.o,lw.o,if_pos (List.eq_nil_of_length_eq_zero fR)])
    go_wp2_with (first
     | (at_builtin;refine zaf rfl (.tmp 111) (.tmp 112) 37 74 rfl W8.heap.size 2 40 (.agg #[.string ByteArray.empty,.slice none 0 0]) Tryz.sninfo74 underlying37 rfl De _ (k) _ rfl H9.o.1 _ (n - k) (zm (Lq.drop k)) rfl ?c3r ?c4r ?c1r ?c2r H9.o.2.size ?_)
     | go_in)
    case c3r=>exact zew me.o k _ Om
    case c4r=>exact zcm (w:=w9) (zcW eI.o k)
    try (case c1r=>unfold maxLen;omega)
    try (case c2r=>omega)
    intro v2 fG g1 g2 g3
    have aZ:=zbm H9.o.2 H9.o.2.size H9.o.1 g2
    obtain ⟨fU,c10,rfl⟩:=zh g1
    have lz:=Hy (An g1 aZ)
    have kP:=zaT gl.o aZ
    have eI:=Hy kP
    have kz:=HQ.o.1
    have fs:=jO.o
    clear g1 g2 g3 aZ
    go_wp2
    go_ret
    refine ⟨_,rfl,⟨(Lq.take k)++(([] : List (Bs × Value))++(Lq.drop k)),W8.heap.size,?_,?_⟩,fi.o.2.1.trans (lz.o.2.mono fi.o.2.1.size)⟩
    ·rw [el.o]
     exact zbB (zcV eI.o k) (zbB (zbQ _) (zcW eI.o k))
    have e:R.length=k+(n - k):=by rw [el.o];simp;try omega
    rw [e,List.nil_append,zaJ];exact lz.o.1
   have ri:(0:Int)<(FV.length:Int):=by omega
   have el:=Hy (show R=L.take k++([(t,FV)]++L.drop k) by rw [gd.o,lw.o,if_neg (fun e=>fR (by rw [e];rfl))])
   go_wp2_with (first
    | (at_builtin;refine zaj rfl (.tmp 107) (.tmp 109) 37 74 rfl W8.heap.size 2 40 (.agg #[.string ByteArray.empty,.slice none 0 0]) Tryz.sninfo74 underlying37 rfl De 1 [.string ⟨t.toArray⟩,.slice fa FV.length fc] rfl ?c0p _ _ _ rfl _ rfl ?c3p H9.o.1 ?c1p ?c2p H9.o.2.size ?_)
    | go_in)
   case c0p=>intro u hu;simp at hu;rcases hu with rfl | rfl <;> rfl
   try (case c1p=>unfold maxLen;omega)
   try (case c2p=>omega)
   case c3p=>first | rfl | simp
   intro v2 fG g1 g2
   obtain ⟨fU,c10,rfl⟩:=zh g1
   have aZ:=H9.o.2.trans g2
   have HG:=Hy (An g1 aZ)
   have me:=Hy (zu jp.o aZ)
   have eI:=Hy (zaT gl.o aZ)
   clear g1 g2 aZ r0 r1
   go_wp2_with (first
    | (at_builtin;refine zaf rfl (.tmp 111) (.tmp 112) 37 74 rfl W8.heap.size 2 40 (.agg #[.string ByteArray.empty,.slice none 0 0]) Tryz.sninfo74 underlying37 rfl De _ _ _ rfl HG.o.1 _ (n - k) (zm (Lq.drop k)) rfl ?c3q ?c4q ?c1q ?c2q HG.o.2.size ?_)
    | go_in)
   case c3q=>exact zew me.o k _ Om
   case c4q=>exact zcm (w:=fG) (zcW eI.o k)
   try (case c1q=>unfold maxLen;omega)
   try (case c2q=>omega)
   intro v3 Cs g1 g2 g3
   have dH:=zbm HG.o.2 HG.o.2.size HG.o.1 g2
   obtain ⟨EO,c11,rfl⟩:=zh g1
   have ij:=Hy (An g1 dH)
   have kQ:=zaT gl.o dH
   have eI:=Hy kQ
   have kz:=HQ.o.1
   have fs:=jO.o
   clear g1 g2 g3 dH
   go_wp2
   go_ret
   refine ⟨_,rfl,⟨(Lq.take k)++([(t,.slice fa FV.length fc)]++(Lq.drop k)),W8.heap.size,?_,?_⟩,fi.o.2.1.trans (ij.o.2.mono fi.o.2.1.size)⟩
   ·rw [el.o]
    exact zbB (zcV eI.o k) (zbB (zgz (zu fi.o.1 ij.o.2)) (zcW eI.o k))
   have e:R.length=k+1+(n - k):=by rw [el.o];simp;try omega
   rw [e,zaJ,zaJ];exact ij.o.1
theorem zvq (L:List Atr) (Lq:List (Bs × Value)) (t:Bs) (V:List (Bs)) (B g n:Nat) (av:Value) (w:World) (hq:zad w Lq L) (hr:w.ownsRow B 74 2 (.slice (some ⟨g,0,none⟩) n n) n (zm Lq)) (hn:L.length=n) (hV:TxR w av V) (dV:n<=100000) (js:V.length<=100000)
  (hK:zs L t=L.length)  :
  Calls prog 127 #[.slice (some ⟨g,0,none⟩) n n,.agg #[.string ⟨t.toArray⟩,av]] w (zdW (zZ L t V) w):=by
 have HQ:=Hy hq
 have HR:=Hy hr
 have jO:=Hy hn
 have hB:∀ k,zs L t=k->∀ j,j<k->∀ hj:j<L.length,L[j].1<t:=by rintro k rfl j h hj;exact zcr j h hj
 obtain ⟨X,hX⟩:=Ex (zaF L t)
 have ke:X=[]:=by rw [<- hX];unfold zaF;rw [dif_neg Om]
 have hP:∀ k,zs L t=k->zZ L t V=L.take k++((if V.foldl zn X=[] then [] else [(t,V.foldl zn X)])++[]):=by
  rintro k rfl
  rw [<- hX];unfold zZ zcq;rw [dif_neg Om]
 obtain ⟨R,kf⟩:=Ex (zZ L t V)
 rw [kf] at hP ⊢
 have fg:zs L t=n:=by omega
 clear hK
 have uN:=Hy (hB n fg)
 have gd:=Hy (hP n fg)
 clear hB hP fg
 have hn:n<=n:=by
  rcases hr.2 with ⟨e,_⟩ | ⟨g',n',cur,e,_,_,h,_⟩
  ·cases e
  injection e with e1 e2 e3
  omega
 have ii:=Hy (show X.length<=100000 by rw [ke];simp)
 have pT:=Hy ke
 have qh:=hV
 obtain ⟨va,vc,rfl,kc⟩:=hV
 have HV:=Hy kc
 obtain ⟨m,hm⟩:=Ex V.length
 have l7:=Hy hm
 have qi:=Hy (show (V.take m).foldl zn X=V.foldl zn X by rw [<- hm,List.take_length])
 have sA:=Hy (fun i hi=>zex (X:=X) (V:=V) i hi)
 have mb:=Hy (fun i=>show ((V.take i).foldl zn X).length<=200000 by
  have h1:=zey X (V.take i)
  have h2:=ii.o
  rw [List.length_take] at h1
  omega)
 rw [hm] at js ⊢
 obtain ⟨W1,aB⟩:=Ex (w.alloc (.cells #[.string ⟨t.toArray⟩,.slice va m vc] 74))
 have k1:=Nb aB
 have x1:=Nw aB
 have fd:=Hy (An k1 x1)
 have br:=Hy aB
 have kz:=hq.1
 have bZ:g<w.heap.size:=by
  rcases hr.2 with ⟨e,_⟩ | ⟨g',n',cur,e,_,hg,_⟩
  ·cases e
  exact ziY
 exact znj
theorem zvr (L:List Atr) (Lq:List (Bs × Value)) (t:Bs) (V:List (Bs)) (B g n cap:Nat) (av:Value) (w:World) (hq:zad w Lq L) (hr:w.ownsRow B 74 2 (.slice (some ⟨g,0,none⟩) n cap) n (zm Lq)) (hn:L.length=n) (hV:TxR w av V) (dV:n<=100000) (js:V.length<=100000)
  (hK:zs L t=L.length) (dP:¬ cap=n) :
  Calls prog 127 #[.slice (some ⟨g,0,none⟩) n cap,.agg #[.string ⟨t.toArray⟩,av]] w (zdW (zZ L t V) w):=by
 have HQ:=Hy hq
 have HR:=Hy hr
 have jO:=Hy hn
 have hB:∀ k,zs L t=k->∀ j,j<k->∀ hj:j<L.length,L[j].1<t:=by rintro k rfl j h hj;exact zcr j h hj
 obtain ⟨X,hX⟩:=Ex (zaF L t)
 have ke:X=[]:=by rw [<- hX];unfold zaF;rw [dif_neg Om]
 have hP:∀ k,zs L t=k->zZ L t V=L.take k++((if V.foldl zn X=[] then [] else [(t,V.foldl zn X)])++[]):=by
  rintro k rfl
  rw [<- hX];unfold zZ zcq;rw [dif_neg Om]
 obtain ⟨R,kf⟩:=Ex (zZ L t V)
 rw [kf] at hP ⊢
 have fg:zs L t=n:=by omega
 clear hK
 have uN:=Hy (hB n fg)
 have gd:=Hy (hP n fg)
 clear hB hP fg
 have bM:n<=cap:=by
  exact znl
 have ii:=Hy (show X.length<=100000 by rw [ke];simp)
 have pT:=Hy ke
 have qh:=hV
 obtain ⟨va,vc,rfl,kc⟩:=hV
 have HV:=Hy kc
 obtain ⟨m,hm⟩:=Ex V.length
 have l7:=Hy hm
 have qi:=Hy (show (V.take m).foldl zn X=V.foldl zn X by rw [<- hm,List.take_length])
 have sA:=Hy (fun i hi=>zex (X:=X) (V:=V) i hi)
 have mb:=Hy (fun i=>show ((V.take i).foldl zn X).length<=200000 by
  have h1:=zey X (V.take i)
  have h2:=ii.o
  rw [List.length_take] at h1
  omega)
 rw [hm] at js ⊢
 obtain ⟨W1,aB⟩:=Ex (w.alloc (.cells #[.string ⟨t.toArray⟩,.slice va m vc] 74))
 have k1:=Nb aB
 have x1:=Nw aB
 have fd:=Hy (An k1 x1)
 have br:=Hy aB
 have kz:=hq.1
 have bZ:g<w.heap.size:=by
  rcases hr.2 with ⟨e,_⟩ | ⟨g',cap',cur,e,_,hg,_⟩
  ·cases e
  exact ziY
 exact znj
theorem zvs (t:Bs) (V:List (Bs)) (av:Value) (w:World) (hV:TxR w av V) (js:V.length<=100000) :
  Calls prog 127 #[.slice none 0 0,.agg #[.string ⟨t.toArray⟩,av]] w (zdW (zZ [] t V) w):=by
 obtain ⟨X,hX⟩:=Ex (zaF [] t)
 have ke:X=[]:=by rw [<- hX];unfold zaF;rw [dif_neg Sm]
 have gd:=Hy (show zZ [] t V=[]++((if V.foldl zn X=[] then [] else [(t,V.foldl zn X)])++[]) by rw [<- hX];rfl)
 obtain ⟨R,kf⟩:=Ex (zZ [] t V)
 rw [kf] at gd ⊢
 have ii:=Hy (show X.length<=100000 by rw [ke];simp)
 have pT:=Hy ke
 have qh:=hV
 obtain ⟨va,vc,rfl,kc⟩:=hV
 have HV:=Hy kc
 obtain ⟨m,hm⟩:=Ex V.length
 have l7:=Hy hm
 have qi:=Hy (show (V.take m).foldl zn X=V.foldl zn X by rw [<- hm,List.take_length])
 have sA:=Hy (fun i hi=>zex (X:=X) (V:=V) i hi)
 have mb:=Hy (fun i=>show ((V.take i).foldl zn X).length<=200000 by
  have h1:=zey X (V.take i)
  have h2:=ii.o
  rw [List.length_take] at h1
  omega)
 rw [hm] at js ⊢
 obtain ⟨W1,aB⟩:=Ex (w.alloc (.cells #[.string ⟨t.toArray⟩,.slice va m vc] 74))
 have k1:=Nb aB
 have x1:=Nw aB
 have fd:=Hy (An k1 x1)
 have br:=Hy aB
 clear kc hm hX ke aB k1 x1 qh kf
 go_enter func127,ntmps127
 go_wp2
 rw [br.o]
 go_loopw [5] (fun v wr=>v=.int .i64 0/\Below W1.heap.size W1 wr) (fun _ _=>0)
 case atStart=>exact ⟨rfl,Br _⟩
 case round =>
  obtain ⟨rfl,hb⟩:=hrel
  have y1:=Ob fd.o.2 hb
  obtain ⟨b0,b1⟩:=zf y1
  have aq:=fd.o.1.trans (hb.mono fd.o.1.size)
  have HB:=Hy (An hb aq)
  have bh:¬ ((0:Int)<(0:Int)):=by omega
  clear hb aq
  go_wp2_with fail
  go_quiet (fail)
  obtain ⟨W2,aL⟩:=Ex (wr.drewN nq)
  rw [aL]
  have k2:Below wr.heap.size wr W2:=by rw [<- aL];exact zae (Br _) nq
  have y2:=Ob y1 k2
  obtain ⟨W3,cU⟩:=Ex (W2.alloc (.cells #[.string ⟨t.toArray⟩,.slice none 0 0] 74))
  have k3:=Nb cU
  have z3:=Nw cU
  have y3:=Ob y2 k3
  obtain ⟨bX,dw⟩:=Ex W2.heap.size
  have l9:=Hy (show w.heap.size<bX by rw [<- dw];exact zi y2)
  have cx:=Hy (HB.o.2.trans ((k2.trans (k3.mono k2.size)).mono HB.o.2.size))
  rw [dw] at z3
  have gk:=Hy (An y3 z3)
  have rf:=Hy cU
  have jh:=Hy dw
  clear b0 b1 aL cU dw z3 y3 k2 k3
  obtain ⟨b0,b1⟩:=zf y2
  clear y1 y2
  go_wp2_with fail
  rw [rf.o,jh.o]
  clear b0 b1
  have y3:=gk.o.1
  have z3:=gk.o.2
  obtain ⟨b0,b1⟩:=zf y3
  obtain ⟨i0,i1⟩:=zf z3
  clear y3 z3
  go_quiet (fail)
  obtain ⟨W4,dk⟩:=Ex (W3.drewN nq)
  rw [dk]
  have k4:Below W3.heap.size W3 W4:=by rw [<- dk];exact zae (Br _) nq
  have y4:=Ob gk.o.1 k4
  have z4:=Ob gk.o.2 k4
  have d5:=Hy (An (cx.o.trans (k4.mono cx.o.size)) (An y4 z4))
  have kw:=Hy (rfl:W4=W4)
  clear b0 b1 i0 i1 dk k4
  obtain ⟨b0,b1⟩:=zf y4
  obtain ⟨i0,i1⟩:=zf z4
  clear y4 z4
  go_wp2_with (first
   | (at_builtin;(try rw [kw.o]);refine zaf rfl (.tmp 57) (.tmp 59) 47 9 rfl W4.heap.size 1 16 (.string ByteArray.empty) Tryz.scinfo9 underlying47 rfl De (.slice none 0 0) 0 [] rfl (World.ownsRow_nil _ _ _ _) _ X.length (sc X) rfl ?c3 (zcD _) ?c1 ?c2 Lr ?_)
   | go_in)
  case c3=>rw [pT.o];exact zdu _ _
  try (case c1=>have:=ii.o;unfold maxLen;omega)
  try (case c2=>have:=ii.o;omega)
  intro v1 w5 g1 g2 g3
  obtain ⟨oa,oc,rfl⟩:=zh g1
  have ai:=zc2 g2
  have g1:w5.ownsRow W4.heap.size 9 1 (.slice oa X.length oc) X.length (sc X):=by simpa using g1
  have lu:0+X.length=X.length:=Nat.zero_add _
  try rw [lu]
  have H5:=Hy (An g1 ai)
  clear g1 g2 g3 ai lu
  go_wp2
  go_loopw [8,9] (fun o v wr=>∃ i:Nat,i<=m/\v=.int .i64 (i:Nat)/\wr.ownsRow W4.heap.size 9 1 o ((V.take i).foldl zn X).length (sc ((V.take i).foldl zn X))/\Below W4.heap.size W4 wr) (fun _ v _=>m - (intOf v).toNat)
  case atStart=>exact ⟨0,by omega,rfl,H5.o.1,H5.o.2⟩
  case round =>
   obtain ⟨i,hi,rfl,ab,hb⟩:=hrel
   have y0:=Ob d5.o.2.1 hb
   have y1:=Ob d5.o.2.2 hb
   obtain ⟨p0,p1⟩:=zf y0
   obtain ⟨q0,q1⟩:=zf y1
   have aq:=d5.o.1.trans (hb.mono d5.o.1.size)
   by_cases aj:i<m
   ·exact znk
   obtain rfl:i=m:=by omega
   have hT:=qi.o
   rw [hT] at ab
   have ew:=mb.o i
   rw [hT] at ew
   obtain ⟨FV,fE⟩:=Ex (V.foldl zn X)
   have lw:=Hy fE
   rw [fE] at ab ew
   obtain ⟨fa,fc,rfl⟩:=zh ab
   have sF:=zc y1 1
   have x8:=zH y1 1 (.slice fa FV.length fc)
   have bj:Chg (fun k=>k=bX) wr (wr.setCell ⟨bX,1,none⟩ (.slice fa FV.length fc)):=(Chg.refl (fun k=>k=bX) wr).setCell (p:=⟨bX,1,none⟩) (fun _=>rfl) _
   have aD:W4.heap.size<=wr.heap.size:=hb.size
   have eJ:=zi d5.o.2.2
   have iz:=zz ab bj (fun k hk e=>by have:=(ab.lt k hk).1;omega)
   have bz:Below w.heap.size w (wr.setCell ⟨bX,1,none⟩ (.slice fa FV.length fc)):=aq.trans (bj.toBelow aq.size (fun k _ e=>by have:=l9.o;omega))
   obtain ⟨W8,dU⟩:=Ex (wr.setCell ⟨bX,1,none⟩ (.slice fa FV.length fc))
   rw [dU] at x8 iz bz
   have pd:=Hy dU
   have lX:=Hy x8
   have fi:=Hy (An iz (An bz ew))
   have gl:=Hy (zbQ w)
   clear ab hb aq y0 y1 hT ew fE x8 bj aD eJ iz bz dU q0
   go_wp2_with (first
    | (at_builtin;(try rw [pd.o]);refine zaf rfl (.tmp 99) (.tmp 102) 37 74 rfl W8.heap.size 2 40 (.agg #[.string ByteArray.empty,.slice none 0 0]) Tryz.sninfo74 underlying37 rfl De (.slice none 0 0) 0 [] rfl (World.ownsRow_nil _ _ _ _) _ (0) (zm ([] : List (Bs × Value))) rfl ?c3 ?c4 ?c1 ?c2 Lr ?_)
    | go_in)
   case c3=>exact zdu _ _
   case c4=>exact (fun u hu=>by simp [zm] at hu)
   try (case c1=>unfold maxLen;omega)
   try (case c2=>omega)
   intro v1 w9 g1 g2 g3
   have bv:=zc2 g2
   have g1:w9.ownsRow W8.heap.size 74 2 v1 (0) (zm ([] : List (Bs × Value))):=by simpa using g1
   obtain ⟨a9,c9,rfl⟩:=zh g1
   have x9:=Ob lX.o bv
   obtain ⟨r0,r1⟩:=zf x9
   have H9:=Hy (An g1 bv)
   skip
   skip
   clear g1 g2 g3 bv x9 q1
   by_cases fR:FV.length=0
   ·have ri:¬ ((0:Int)<(FV.length:Int)):=by omega
    have el:=Hy (show R=([] : List Atr)++(([] : List Atr)++([] : List Atr)) by rw [gd.o,lw.o,if_pos (List.eq_nil_of_length_eq_zero fR)])
    go_wp2_with (first
     | (at_builtin;refine zaf rfl (.tmp 111) (.tmp 112) 37 74 rfl W8.heap.size 2 40 (.agg #[.string ByteArray.empty,.slice none 0 0]) Tryz.sninfo74 underlying37 rfl De _ (0) _ rfl H9.o.1 _ (0) (zm ([] : List (Bs × Value))) rfl ?c3r ?c4r ?c1r ?c2r H9.o.2.size ?_)
     | go_in)
    case c3r=>exact zdu _ _
    case c4r=>exact (fun u hu=>by simp [zm] at hu)
    try (case c1r=>unfold maxLen;omega)
    try (case c2r=>omega)
    intro v2 fG g1 g2 g3
    have aZ:=zbm H9.o.2 H9.o.2.size H9.o.1 g2
    obtain ⟨fU,c10,rfl⟩:=zh g1
    have lz:=Hy (An g1 aZ)
    clear g1 g2 g3 aZ
    go_wp2
    go_ret
    refine ⟨_,rfl,⟨([] : List (Bs × Value))++(([] : List (Bs × Value))++([] : List (Bs × Value))),W8.heap.size,?_,?_⟩,fi.o.2.1.trans (lz.o.2.mono fi.o.2.1.size)⟩
    ·rw [el.o]
     exact zbB (zbQ _) (zbB (zbQ _) (zbQ _))
    have e:R.length=0+(0):=by rw [el.o];simp;try omega
    rw [e,List.nil_append,zaJ];exact lz.o.1
   have ri:(0:Int)<(FV.length:Int):=by omega
   have el:=Hy (show R=([] : List Atr)++([(t,FV)]++([] : List Atr)) by rw [gd.o,lw.o,if_neg (fun e=>fR (by rw [e];rfl))])
   go_wp2_with (first
    | (at_builtin;refine zaj rfl (.tmp 107) (.tmp 109) 37 74 rfl W8.heap.size 2 40 (.agg #[.string ByteArray.empty,.slice none 0 0]) Tryz.sninfo74 underlying37 rfl De 1 [.string ⟨t.toArray⟩,.slice fa FV.length fc] rfl ?c0p _ _ _ rfl _ rfl ?c3p H9.o.1 ?c1p ?c2p H9.o.2.size ?_)
    | go_in)
   case c0p=>intro u hu;simp at hu;rcases hu with rfl | rfl <;> rfl
   try (case c1p=>unfold maxLen;omega)
   try (case c2p=>omega)
   case c3p=>first | rfl | simp
   intro v2 fG g1 g2
   obtain ⟨fU,c10,rfl⟩:=zh g1
   have aZ:=H9.o.2.trans g2
   have HG:=Hy (An g1 aZ)
   skip
   skip
   clear g1 g2 aZ r0 r1
   go_wp2_with (first
    | (at_builtin;refine zaf rfl (.tmp 111) (.tmp 112) 37 74 rfl W8.heap.size 2 40 (.agg #[.string ByteArray.empty,.slice none 0 0]) Tryz.sninfo74 underlying37 rfl De _ _ _ rfl HG.o.1 _ (0) (zm ([] : List (Bs × Value))) rfl ?c3q ?c4q ?c1q ?c2q HG.o.2.size ?_)
    | go_in)
   case c3q=>exact zdu _ _
   case c4q=>exact (fun u hu=>by simp [zm] at hu)
   try (case c1q=>unfold maxLen;omega)
   try (case c2q=>omega)
   intro v3 Cs g1 g2 g3
   have dH:=zbm HG.o.2 HG.o.2.size HG.o.1 g2
   obtain ⟨EO,c11,rfl⟩:=zh g1
   have ij:=Hy (An g1 dH)
   clear g1 g2 g3 dH
   go_wp2
   go_ret
   refine ⟨_,rfl,⟨([] : List (Bs × Value))++([(t,.slice fa FV.length fc)]++([] : List (Bs × Value))),W8.heap.size,?_,?_⟩,fi.o.2.1.trans (ij.o.2.mono fi.o.2.1.size)⟩
   ·rw [el.o]
    exact zbB (zbQ _) (zbB (zgz (zu fi.o.1 ij.o.2)) (zbQ _))
   have e:R.length=0+1+(0):=by rw [el.o];simp;try omega
   rw [e,zaJ,zaJ];exact ij.o.1
end Go.Proofs.YtijglbolppkefaaGreatDoor
