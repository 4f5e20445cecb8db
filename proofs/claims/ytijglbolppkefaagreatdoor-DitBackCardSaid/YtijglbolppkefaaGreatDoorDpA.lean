/- The document's tree: the names. -/
import Derived.Test.YtijglbolppkefaaGreatDoorMRnP
import Derived.Test.YtijglbolppkefaaGreatDoorDtSV
import Derived.Test.YtijglbolppkefaaGreatDoorDtRc
import Derived.Test.YtijglbolppkefaaGreatDoorRnJ
import Derived.Test.YtijglbolppkefaaGreatDoorDtLd
import Derived.Test.YtijglbolppkefaaGreatDoorDtArg
import Derived.Test.YtijglbolppkefaaGreatDoorMScQ
import Derived.Test.YtijglbolppkefaaGreatDoorEnQT
import Derived.Test.YtijglbolppkefaaGreatDoorDtK
import Derived.Test.YtijglbolppkefaaGreatDoorMPlEF
import Derived.Test.YtijglbolppkefaaGreatDoorMLayw
import Derived.Test.YtijglbolppkefaaGreatDoorSnNT
import Derived.Test.YtijglbolppkefaaGreatDoorMRuB
import Derived.Test.YtijglbolppkefaaGreatDoorDtAC
import Derived.Test.YtijglbolppkefaaGreatDoorMDqJ
import Derived.Test.YtijglbolppkefaaGreatDoorEnUW
import Derived.Test.YtijglbolppkefaaGreatDoorMMoReg
import Derived.BigQuiet
import Derived.Deep.QuietTactic
set_option linter.unusedVariables false
set_option linter.unusedSimpArgs false
set_option maxHeartbeats 25600000
set_option maxRecDepth 100000
namespace Go.Proofs.YtijglbolppkefaaGreatDoor
open Go.Proofs.Tryz
open Go Go.RowKit Go.Proofs.BerK Go.Proofs.MemK Go.Proofs.UtfK Go.Proofs.RegK Go.Maps Go.WideMaps
theorem zkM {p:Prop} (h:p:=by
 have h5:=Hy (An cM (An (Ob HY.o cM) (zu Fq.o ai)))
 clear d0 d1 d2 k0 ai cM
 cases un with
 | false =>
  go_wp2
  refine ⟨⟨i+1,by omega,by go_num,h5.o.1,?_⟩,by simp [intOf];omega⟩
  rw [HD.o,if_neg (by rw [Fr.o];simp),H.o.2.2.2]
  exact h5.o.2.2
 | true =>
  obtain ⟨d0,d1,d2⟩:=ze h5.o.2.1
  have k0:=HK.o w5 (HB.o.trans (h5.o.1.mono HB.o.size))
  go_wp2_with (at_builtin;refine zaM rfl (.tmp 32) (.tmp 39) 47 9 rfl W0.heap.size 1 16 _ Tryz.scinfo9 underlying47 rfl De [.string ⟨x.toArray⟩] rfl (by intro u hu;simp at hu;subst hu;rfl) (.slice oa N oc) N (sc (GF (L.take i))) rfl _ rfl rfl h5.o.2.2 Mx Om h5.o.1.size ?_)
  intro nv w' g1 g2 g3
  obtain ⟨na,nc,rfl⟩:=zh g1
  have bp:Below W0.heap.size W0 w':=h5.o.1.trans (g2.toBelow h5.o.1.size (fun k _ hk=>(h5.o.2.2.lt k hk.symm).1))
  have H2:=Hy (An g1 bp)
  clear g1 g2 g3 bp k0 d0 d1 d2
  go_wp2
  refine ⟨⟨i+1,by omega,by go_num,H2.o.2,?_⟩,by simp [intOf];omega⟩
  rw [HD.o,if_pos ⟨v7.o,Fr.o⟩,List.length_append,H.o.2.2.2,zfz]
  exact H2.o.1):p:=h
theorem ze7 {p:Prop} (h:p:=by
 exact zdI HQ.o (zb1 H8.o.2.1 H8.o.1 _ _ _) (zdj H8.o.2.2 Om _ _ _)):p:=h
def zbS (b:Bool) (L:List Ent) (s:Bs):List (Bs):=if b=true then zcB L s else []
def zbz (L:List Ent) (s:Bs):List (Bs):=zbS (s.isEmpty || zt L s) L s
theorem zrD (b:Bool) (s:Bs):zbS b [] s=[]:=by unfold zbS zcB;cases b <;> rfl
theorem zrE (b:Bool) (L:List Ent) (s:Bs) (i:Nat) (h:i<L.length):zbS b (L.take (i+1)) s=if b=true/\zbq L[i].1 s=true then zbS b (L.take i) s++[L[i].1] else zbS b (L.take i) s:=by
 unfold zbS zcB
 rw [List.take_succ_eq_append_getElem h,List.map_append,List.filter_append]
 cases b
 ·simp
 by_cases hu:zbq L[i].1 s=true
 ·rw [if_pos rfl,if_pos rfl,if_pos ⟨rfl,hu⟩]
  congr 1
  simp [hu]
 rw [if_pos rfl,if_pos rfl,if_neg (fun h=>hu h.2)]
 simp [hu]
theorem zh0 (b:Bool) (L:List Ent) (s:Bs):(zbS b L s).length<=L.length:=by
 unfold zbS
 split
 ·exact zm8 L s
 simp
theorem zkN {L:List Ent} (h:TrL L) (s:Bs):zb7 L s=zbz L s:=by
 unfold zb7 zbz zbS
 by_cases h0:s=[]
 ·subst h0
  rw [if_pos rfl]
  show _=if (true || zt L [])=true then _ else _
  rw [Bool.true_or,if_pos rfl];exact (zmS h).1.symm
 have he:s.isEmpty=false:=by simpa using h0
 rw [if_neg h0,he,Bool.false_or]
theorem zh1 (B:Nat) (tn tc cn cc:Nat) (sa sc':Option Addr) (lv:Value) (L:List Ent) (s:Bs) (w:World) (h:zN w B lv L) (hl:L.length<=100000) :
  Calls prog 15 #[.agg #[.slice sa tn tc,.slice sc' cn cc,lv],.string ⟨s.toArray⟩] w (zgy (zbz L s) w):=by
 obtain ⟨a,c,rfl⟩:=za8 h
 have lL:=Hy (fun w' (hb:Below w.heap.size w w')=>zgR B (.slice sa tn tc) (.slice sc' cn cc) (.slice a L.length c) L s w' (zT h hb) Om)
 have HU:=Hy (fun x w'=>zyB x s w')
 obtain ⟨n,hn⟩:=Ex L.length
 have HN:=Hy hn
 rw [hn] at h hl lL ⊢
 have HE:=Hy h
 obtain ⟨hs,rJ⟩:=Ex (zt L s)
 have HA:=Hy (fun w' hb=>show Calls prog 36 #[.agg #[.slice sa tn tc,.slice sc' cn cc,.slice a n c],.string ⟨s.toArray⟩] w' (fun en w''=>∃ n:Int,en=.returned (.int .i64 n)/\(0<=n ↔ hs=true)/\Below w'.heap.size w' w'') from by have:=lL.o w' hb;unfold zeK at this;rw [rJ] at this;exact this)
 have aY:zbz L s=zbS (s.isEmpty || hs) L s:=by unfold zbz;rw [rJ]
 rw [aY]
 obtain ⟨bb,eO⟩:=Ex (s.isEmpty || hs)
 rw [eO]
 have Ec:=Hy eO
 obtain ⟨W0,aN⟩:=Ex (w.alloc (.cells #[.slice sa tn tc,.slice sc' cn cc,.slice a n c] 35))
 have aE:=Nb aN
 have y0:=Nw aN
 have HY:=Hy y0
 have HB:=Hy aE
 have HW:=Hy aN
 have HX:=Hy (fun i=>zrE bb L s i)
 have td:=Hy (zrD bb s)
 have Kl:=Hy (fun i=>zh0 bb (L.take i) s)
 obtain ⟨GF,Km⟩:∃ f:List Ent->List (Bs),(fun l=>zbS bb l s)=f:=⟨_,rfl⟩
 have tf:∀ l,zbS bb l s=GF l:=fun l=>congrFun Km l
 simp only [tf] at HX td Kl ⊢
 clear h hn aE y0 aN lL rJ aY eO Km tf
 obtain ⟨d0,d1,d2⟩:=ze HY.o
 go_enter func15,ntmps15
 go_wp2_with fail
 try rw [HW.o]
 go_loopw [5,6] (fun ov iv wr=>∃ i:Nat,i<=n/\iv=.int .i64 (i:Nat)/\Below W0.heap.size W0 wr/\wr.ownsRow W0.heap.size 9 1 ov (GF (L.take i)).length (sc (GF (L.take i)))) (fun _ iv _=>n - (intOf iv).toNat)
 case atStart=>exact ⟨0,by omega,rfl,Br _,by rw [List.take_zero,td.o];exact World.ownsRow_nil _ _ _ _⟩
 case round =>
  obtain ⟨i,hi,rfl,hb,ab⟩:=hrel
  obtain ⟨oa,oc,rfl⟩:=zh ab
  have jx:=Ob HY.o hb
  obtain ⟨N,hN⟩:=Ex ((GF (L.take i)).length)
  have kk:N<=n:=by
   rw [<- hN];refine Nat.le_trans (Kl.o i) ?_
   rw [List.length_take,HN.o];omega
  rw [hN] at ab ⊢
  have H:=Hy (An hb (An jx (An ab hN)))
  clear d0 d1 d2 ab hN
  by_cases aj:i<n
  ·have bh:(i:Int)<(n:Int):=by omega
   have iS:i<L.length:=by rw [HN.o];exact aj
   have aq:=HB.o.trans (hb.mono HB.o.size)
   obtain ⟨g,v,rfl,hg,fZ,_,_⟩:=zfE HE.o i iS
   have HK:=Hy (fun w' (co:Below w.heap.size w w')=>(co.cell (p:=⟨g,_,none⟩) hg).trans fZ)
   have hdn:=HX.o i iS
   have e0:=HN.o
   obtain ⟨x,hx⟩:=Ex (L[i].1)
   rw [hx] at HK hdn
   have HD:=Hy hdn
   have iT:=Hy aq
   clear hb aq hdn hx hg fZ e0 jx
   have HOw0:=Hy H.o.2.2.1
   by_cases ip:s=[]
   ·subst ip
    have Kn:([] : Bs).isEmpty=true:=rfl
    have jy:bb=true:=by rw [<- Ec.o];rfl
    have v7:=Hy jy
    have Fq:=Hy H.o.2.2.1
    clear jy
    obtain ⟨d0,d1,d2⟩:=ze (Ob HY.o H.o.1)
    have k0:=HK.o wr (HB.o.trans (H.o.1.mono HB.o.size))
    have xP:=Hy (HU.o x wr)
    obtain ⟨un,tg⟩:=Ex (zbq x ([] : Bs))
    rw [tg] at xP
    have Fr:=Hy tg
    clear tg
    go_wp2_with fail
    with_reducible refine xP.o.mono ?_
    rintro en w5 ⟨rfl,ai⟩
    have cM:=H.o.1.trans (ai.mono H.o.1.size)
    exact zkM
   have Kn:s.isEmpty=false:=by simpa using ip
   have wd:hs=bb:=by rw [<- Ec.o,Kn];rfl
   obtain ⟨d0,d1,d2⟩:=ze H.o.2.1
   have Fs:=Hy (HA.o wr iT.o)
   have Ko:=Hy wd
   clear wd
   go_wp2_with fail
   with_reducible refine Fs.o.mono ?_
   rintro en w4 ⟨n1,rfl,de,bf⟩
   have xQ:=H.o.1.trans (bf.mono H.o.1.size)
   have Fq:=Hy (zu H.o.2.2.1 bf)
   have H4:=Hy xQ
   clear d0 d1 d2 bf xQ
   cases hs with
   | false =>
    have hq:¬ (0:Int)<=n1:=fun h=>by have:=de.1 h;cases this
    have Ed:=Hy (show bb=false from Ko.o.symm)
    clear de
    go_wp2
    refine ⟨⟨i+1,by omega,by go_num,H4.o,?_⟩,by simp [intOf];omega⟩
    rw [HD.o,if_neg (by rw [Ed.o];simp),H.o.2.2.2]
    exact Fq.o
   | true =>
    have hq:(0:Int)<=n1:=de.2 rfl
    have v7:=Hy (show bb=true from Ko.o.symm)
    clear de
    obtain ⟨d0,d1,d2⟩:=ze (Ob HY.o H4.o)
    have k0:=HK.o w4 (HB.o.trans (H4.o.mono HB.o.size))
    have xP:=Hy (HU.o x w4)
    obtain ⟨un,tg⟩:=Ex (zbq x s)
    rw [tg] at xP
    have Fr:=Hy tg
    clear tg
    go_wp2_with fail
    with_reducible refine xP.o.mono ?_
    rintro en w5 ⟨rfl,ai⟩
    have cM:=H4.o.trans (ai.mono H4.o.size)
    exact zkM
  obtain rfl:i=n:=by omega
  obtain ⟨d0,d1,d2⟩:=ze jx
  have HF:=Hy (show (GF (L.take i))=GF L by rw [<- HN.o,List.take_length])
  clear hb aj jx
  go_wp2
  go_ret
  refine ⟨_,rfl,?_,HB.o.trans (H.o.1.mono HB.o.size)⟩
  rw [<- HF.o,H.o.2.2.2]
  exact zaK H.o.2.2.1 HB.o.size
theorem zrF (B:Nat) (tn tc cn cc:Nat) (sa sc':Option Addr) (lv:Value) (L:List Ent) (w:World) (h:zN w B lv L) (hl:L.length<=100000) :
  Calls prog 32 #[.agg #[.slice sa tn tc,.slice sc' cn cc,lv]] w (zgy (zbz L []) w):=by
 obtain ⟨a,c,rfl⟩:=za8 h
 obtain ⟨W0,aN⟩:=Ex (w.alloc (.cells #[.slice sa tn tc,.slice sc' cn cc,.slice a L.length c] 35))
 have aE:=Nb aN
 have y0:=Nw aN
 have HA:=Hy (zh1 B tn tc cn cc sa sc' _ L [] W0 (zT h aE) hl)
 obtain ⟨d0,d1,d2⟩:=ze y0
 have HB:=Hy aE
 have HW:=Hy aN
 obtain ⟨M,hM⟩:=Ex (zbz L [])
 rw [hM] at HA ⊢
 obtain ⟨n,hn⟩:=Ex L.length
 rw [hn] at d2 HA HW ⊢
 clear h hl aE y0 aN hM hn
 go_enter func32,ntmps32
 go_wp2_with fail
 try rw [HW.o]
 with_reducible refine HA.o.mono ?_
 rintro en w2 ⟨nv,rfl,ab,ak⟩
 obtain ⟨na,nc,rfl⟩:=zh ab
 have H2:=Hy (An ab ak)
 obtain ⟨m,hm⟩:=Ex M.length
 have HM:=Hy hm
 rw [hm]
 clear ab ak d0 d1 d2 hm
 go_wp2
 go_ret
 rw [<- HM.o]
 exact ⟨_,rfl,zaK H2.o.1 HB.o.size,HB.o.trans (H2.o.2.mono HB.o.size)⟩
theorem zrG {w W1:World} {a b c f k l:Value} (h:(w.alloc (.cells #[a,b,c] 35)).alloc (.cells #[f,k,l] 35)=W1) :
  W1.heap[w.heap.size]?=some (.cells #[a,b,c] 35 (0,0))/\W1.heap[w.heap.size+1]?=some (.cells #[f,k,l] 35 (0,0))/\Below w.heap.size w W1/\W1.heap.size=w.heap.size+2:=by
 obtain ⟨U,hU⟩:=Ex (w.alloc (.cells #[a,b,c] 35))
 rw [hU] at h
 have sU:U.heap.size=w.heap.size+1:=by rw [<- hU];simp
 have bU:=Nb hU
 have bW:=Nb h
 have y0:=Nw hU
 have y2:W1.heap[w.heap.size+1]?=some (.cells #[f,k,l] 35 (0,0)):=by rw [<- h,<- sU];exact heap_alloc_new U _
 refine ⟨zj y0 bW Om,y2,bU.trans (bW.mono bU.size),?_⟩
 rw [<- h];simp [sU]
theorem zrH (B:Nat) (ta tn tc ca cn cc:Nat) (sa sc':Option Addr) (lv:Value) (L:List Ent) (s:Bs) (w:World) (h:zN w B lv L) (hl:L.length<=100000) (hT:TrL L) :
  Calls prog 29 #[.agg #[.slice sa tn tc,.slice sc' cn cc,lv],.string ⟨s.toArray⟩] w (zhM (.slice sa tn tc) (.slice sc' cn cc) (zaD L s) (zaI L s) w):=by
 obtain ⟨la,lc,rfl⟩:=za8 h
 obtain ⟨W1,aB⟩:=Ex ((w.alloc (.cells #[.slice sa tn tc,.slice sc' cn cc,.slice la L.length lc] 35)).alloc (.cells #[.slice none 0 0,.slice none 0 0,.slice none 0 0] 35))
 obtain ⟨x0,x1,au,bi⟩:=zrG aB
 have lL:=Hy (fun w' (hb:Below w.heap.size w w')=>zgR B (.slice sa tn tc) (.slice sc' cn cc) (.slice la L.length lc) L s w' (zT h hb) Om)
 have Ft:=Hy (fun w' (hb:Below w.heap.size w w')=>zh1 B tn tc cn cc sa sc' (.slice la L.length lc) L s w' (zT h hb) hl)
 have Fu:=Hy (fun w' (hb:Below w.heap.size w w')=>zxj B ta tn tc ca cn cc sa sc' (.slice la L.length lc) L s w' (zT h hb) Om)
 have jZ:=Hy (fun w' (hb:Below w.heap.size w w')=>zT h hb)
 have xR:zt L s=true->((zbz L s).length<=1 ↔ zk L s=[]):=fun hh=>by
  have e:zbz L s=zcB L s:=by unfold zbz zbS;rw [hh,Bool.or_true,if_pos rfl]
  rw [e];exact zuD hT hh
 have cu:=Hy (fun (hh:zt L s=false)=>(An (zfm (ziF hh) De) (ziF hh)))
 have gM:=Hy (fun (hh:zt L s=true) (hk:¬ (zbz L s).length<=1)=>(An (zfm (ziG hh (fun e=>hk ((xR hh).2 e))) De) (ziG hh (fun e=>hk ((xR hh).2 e)))))
 have Ee:=Hy (fun (hh:zt L s=true) (hk:(zbz L s).length<=1)=>(An (show zaD L s=zac L s by unfold zaD;rw [if_pos (zfl hh ((xR hh).1 hk))]) (zfl hh ((xR hh).1 hk))))
 have eJ:(zbz L s).length<=L.length:=zh0 _ _ _
 obtain ⟨hs,rJ⟩:=Ex (zt L s)
 obtain ⟨bl,aY⟩:=Ex (zbz L s)
 obtain ⟨DC,lM⟩:=Ex (zaI L s)
 obtain ⟨DL,gV⟩:=Ex (zaD L s)
 obtain ⟨DR,rK⟩:=Ex (zac L s)
 have HA:=Hy (fun w' hb=>show Calls prog 36 #[.agg #[.slice sa tn tc,.slice sc' cn cc,.slice la L.length lc],.string ⟨s.toArray⟩] w' (fun en w''=>∃ n:Int,en=.returned (.int .i64 n)/\(0<=n ↔ hs=true)/\Below w'.heap.size w' w'') from by have:=lL.o w' hb;unfold zeK at this;rw [rJ] at this;exact this)
 rw [lM,gV,rJ] at cu
 rw [lM,gV,rJ,aY] at gM Ee
 rw [rK] at Ee Fu
 rw [aY] at Ft eJ
 rw [lM,gV]
 obtain ⟨m,hm⟩:=Ex bl.length
 obtain ⟨n,hn⟩:=Ex L.length
 rw [hm] at gM Ee eJ
 have HM:=Hy hm
 rw [hn] at HA Ft Fu jZ x0 aB eJ hl ⊢
 have HX:=Hy (An x0 (An x1 au))
 have br:=Hy aB
 clear h hT x0 x1 au xR rJ aY lM gV rK hm hn aB lL
 obtain ⟨t0,t1,t2⟩:=ze HX.o.1
 have Fs:=Hy (HA.o W1 HX.o.2.2)
 go_enter func29,ntmps29
 go_wp2_with fail
 try rw [br.o]
 with_reducible refine Fs.o.mono ?_
 rintro en w4 ⟨n1,rfl,de,bf⟩
 have H4:=Hy (An (Ob HX.o.1 bf) (An (Ob HX.o.2.1 bf) (HX.o.2.2.trans (bf.mono HX.o.2.2.size))))
 clear t0 t1 t2 bf
 cases hs with
 | false =>
  have hq:n1<(0:Int):=by
   by_cases h:(0:Int)<=n1
   ·have:=de.1 h;cases this
   omega
  clear de
  have HQ:=Hy (cu.o (by first | rfl | trivial))
  have H8:=Hy (An H4.o.2.1 (An (jZ.o _ H4.o.2.2) H4.o.2.2))
  obtain ⟨t0,t1,t2⟩:=ze H4.o.1
  obtain ⟨l0,l1,l2⟩:=ze H8.o.1
  have v0:=zc H8.o.1 0
  have v1:=zc H8.o.1 1
  have v2:=zc H8.o.1 2
  go_wp2
  obtain ⟨j0,j1,j2⟩:=ze (zbd H8.o.1 (.slice sa tn tc) (.slice sc' cn cc) (.slice la n lc))
  refine bodyPost_ret (v:=.tuple #[.agg #[.slice sa tn tc,.slice sc' cn cc,.slice la n lc],.int .i64 32]) (by simp [results,results29,go_sem, *]) rfl ?_
  exact ze7
 | true =>
  have hq:¬ n1<(0:Int):=by have:=de.2 rfl;omega
  obtain ⟨t0,t1,t2⟩:=ze H4.o.1
  have gm:=Hy (Ft.o w4 H4.o.2.2)
  clear de
  go_wp2_with fail
  with_reducible refine gm.o.mono ?_
  rintro en w5 ⟨nv,rfl,ab,ai⟩
  have H5:=Hy (An (Ob H4.o.1 ai) (An (Ob H4.o.2.1 ai) (H4.o.2.2.trans (ai.mono H4.o.2.2.size))))
  obtain ⟨na,nc,rfl⟩:=zh ab
  rw [HM.o]
  clear t0 t1 t2 ai ab
  by_cases hk:m<=1
  ·have fM:¬ (1:Int)<(m:Int):=by omega
   have HQ:=Hy (Ee.o (by first | rfl | trivial) hk)
   obtain ⟨t0,t1,t2⟩:=ze H5.o.1
   have Ef:=Hy (Fu.o w5 H5.o.2.2)
   go_wp2_with fail
   with_reducible refine Ef.o.mono ?_
   rintro en w6 ⟨Kp,rfl,jn,az⟩
   obtain ⟨oa,oc,rfl⟩:=za8 jn
   have we:=Ob H5.o.2.1 az
   have xS:=H5.o.2.2.trans (az.mono H5.o.2.2.size)
   obtain ⟨pn,rL⟩:=Ex DR.length
   rw [rL] at jn ⊢
   have H8:=Hy (An we (An jn xS))
   clear we jn xS az rL t0 t1 t2
   obtain ⟨l0,l1,l2⟩:=ze H8.o.1
   have v0:=zc H8.o.1 0
   have v1:=zc H8.o.1 1
   have v2:=zc H8.o.1 2
   go_wp2
   obtain ⟨j0,j1,j2⟩:=ze (zbd H8.o.1 (.slice sa tn tc) (.slice sc' cn cc) (.slice oa pn oc))
   refine bodyPost_ret (v:=.tuple #[.agg #[.slice sa tn tc,.slice sc' cn cc,.slice oa pn oc],.int .i64 0]) (by simp [results,results29,go_sem, *]) rfl ?_
   exact zdI (L:=DR) HQ.o (zb1 H8.o.2.1 H8.o.1 _ _ _) (zdj H8.o.2.2 Om _ _ _)
  have fM:(1:Int)<(m:Int):=by omega
  have HQ:=Hy (gM.o (by first | rfl | trivial) hk)
  have H8:=Hy (An H5.o.2.1 (An (jZ.o _ H5.o.2.2) H5.o.2.2))
  obtain ⟨t0,t1,t2⟩:=ze H5.o.1
  obtain ⟨l0,l1,l2⟩:=ze H8.o.1
  have v0:=zc H8.o.1 0
  have v1:=zc H8.o.1 1
  have v2:=zc H8.o.1 2
  go_wp2
  obtain ⟨j0,j1,j2⟩:=ze (zbd H8.o.1 (.slice sa tn tc) (.slice sc' cn cc) (.slice la n lc))
  refine bodyPost_ret (v:=.tuple #[.agg #[.slice sa tn tc,.slice sc' cn cc,.slice la n lc],.int .i64 66]) (by simp [results,results29,go_sem, *]) rfl ?_
  exact ze7
theorem zrI (B:Nat) (ta tn tc ca cn cc:Nat) (sa sc':Option Addr) (lv av:Value) (L:List Ent) (dn:Bs) (A:List Atr) (w:World) (h:zN w B lv L) (hl:L.length<=100000) (hT:zL w (.slice sa tn tc) plT) (hC:zai w (.slice sc' cn cc) plC) (hA:zaB w av A) (hf:zcz A) (hdn:dn.length<=100000) :
  Calls prog 30 #[.agg #[.slice sa tn tc,.slice sc' cn cc,lv],.agg #[.string ⟨dn.toArray⟩,av]] w (zhM (.slice sa tn tc) (.slice sc' cn cc) (zbf L (dn,A)) (zbe L (dn,A)) w):=by
 obtain ⟨la,lc,rfl⟩:=za8 h
 obtain ⟨ea,ec,rfl,eE⟩:=hA
 have hA:zaB w (.slice ea A.length ec) A:=⟨ea,ec,rfl,eE⟩
 clear eE
 obtain ⟨W1,aB⟩:=Ex (((w.alloc (.cells #[.slice sa tn tc,.slice sc' cn cc,.slice la L.length lc] 35)).alloc (.cells #[.string ⟨dn.toArray⟩,.slice ea A.length ec] 39)).alloc (.cells #[.slice none 0 0,.slice none 0 0,.slice none 0 0] 35))
 obtain ⟨x0,x1,x2,au,bi⟩:=zkp aB
 have lL:=Hy (fun w' (hb:Below w.heap.size w w')=>zgR B (.slice sa tn tc) (.slice sc' cn cc) (.slice la L.length lc) L dn w' (zT h hb) Om)
 have dq:=Hy (fun w' (hb:Below w.heap.size w w')=>zqw plT plC A (.slice sa tn tc) (.slice sc' cn cc) (.slice ea A.length ec) ⟨dn.toArray⟩ w' (zbc hT hb) (zed hC hb) (zbL hA hb) Dk Dk Dk Dk Dk (by have:=hf.1.1;omega) (fun a ha=>by
  obtain ⟨h1,h2,h3⟩:=hf.1.2 a ha
  exact ⟨by omega,by omega,fun s hs=>by have:=h3 s hs;omega⟩))
 have iq:=Hy (fun w' (hb:Below w.heap.size w w')=>zoU A dn (.slice sa tn tc) (.slice sc' cn cc) (.slice ea A.length ec) w' (zbc hT hb) (zbL hA hb) hf.2)
 have iU:=Hy (fun w' (hb:Below w.heap.size w w')=>zqs B ta tn tc ca cn cc sa sc' (.slice la L.length lc) (.slice ea A.length ec) L dn A w' (zT h hb) hl (zbL hA hb) hf.2)
 have jZ:=Hy (fun w' (hb:Below w.heap.size w w')=>zT h hb)
 have d8:zbe L (dn,A)=(if zt L dn=false then 32 else if zaP plT plC A≠0 then zaP plT plC A else if zcT A dn=false then 64 else 0):=rfl
 have dj:zbf L (dn,A)=if zbe L (dn,A)=0 then zF (dn,clA A) L else L:=rfl
 obtain ⟨AC,th⟩:=Ex (zbe L (dn,A))
 obtain ⟨AL,ti⟩:=Ex (zbf L (dn,A))
 rw [th] at d8 dj
 rw [ti] at dj
 rw [th,ti]
 obtain ⟨ck,dP⟩:=Ex (zaP plT plC A)
 obtain ⟨ng,xT⟩:=Ex (zcT A dn)
 obtain ⟨pt,xU⟩:=Ex (zF (dn,clA A) L)
 obtain ⟨h1,gN⟩:=Ex (zt L dn)
 rw [dP] at dq d8
 rw [xT] at iq d8
 rw [xU] at iU dj
 rw [gN] at d8
 have pO:=Hy (fun c (hc:AC=c) (h0:c≠0)=>show AL=L/\AC=c from ⟨by rw [dj,if_neg (by rw [hc];exact h0)],hc⟩)
 have tj:=Hy (fun (hc:AC=0)=>show AL=pt from by rw [dj,if_pos hc])
 have mW:=Hy (fun w' hb=>show Calls prog 36 #[.agg #[.slice sa tn tc,.slice sc' cn cc,.slice la L.length lc],.string ⟨dn.toArray⟩] w' (fun en w''=>∃ n:Int,en=.returned (.int .i64 n)/\(0<=n ↔ h1=true)/\Below w'.heap.size w' w'') from by have:=lL.o w' hb;unfold zeK at this;rw [gN] at this;exact this)
 have HX:=Hy (An x0 (An x1 (An x2 au)))
 have wg:=Hy d8
 obtain ⟨n,hn⟩:=Ex L.length
 obtain ⟨m,hm⟩:=Ex A.length
 rw [hn] at mW iU jZ HX aB ⊢
 rw [hm] at dq iq iU HX aB ⊢
 have br:=Hy aB
 clear h hl hT hC hA hf hdn x0 x1 x2 au bi d8 dj th ti dP xT xU gN hn hm aB lL
 obtain ⟨t0,t1,t2⟩:=ze HX.o.1
 obtain ⟨e0,e1⟩:=zf HX.o.2.1
 have cu:=Hy (mW.o W1 HX.o.2.2.2)
 go_enter func30,ntmps30
 go_wp2_with fail
 try rw [br.o]
 with_reducible refine cu.o.mono ?_
 rintro en w4 ⟨n1,rfl,de,bf⟩
 have H4:=Hy (An (Ob HX.o.1 bf) (An (Ob HX.o.2.1 bf) (An (Ob HX.o.2.2.1 bf) (HX.o.2.2.2.trans (bf.mono HX.o.2.2.2.size)))))
 clear t0 t1 t2 e0 e1 bf
 cases h1 with
 | false =>
  have hq:n1<(0:Int):=by
   by_cases h:(0:Int)<=n1
   ·have:=de.1 h;cases this
   omega
  clear de
  have HQ:=Hy (pO.o 32 (by rw [wg.o,if_pos rfl]) De)
  have H8:=Hy (An H4.o.2.2.1 (An (jZ.o _ H4.o.2.2.2) H4.o.2.2.2))
  obtain ⟨t0,t1,t2⟩:=ze H4.o.1
  obtain ⟨l0,l1,l2⟩:=ze H8.o.1
  have v0:=zc H8.o.1 0
  have v1:=zc H8.o.1 1
  have v2:=zc H8.o.1 2
  go_wp2
  obtain ⟨j0,j1,j2⟩:=ze (zbd H8.o.1 (.slice sa tn tc) (.slice sc' cn cc) (.slice la n lc))
  refine bodyPost_ret (v:=.tuple #[.agg #[.slice sa tn tc,.slice sc' cn cc,.slice la n lc],.int .i64 32]) (by simp [results,results30,go_sem, *]) rfl ?_
  exact ze7
 | true =>
  have hq:¬ n1<(0:Int):=by have:=de.2 rfl;omega
  have d8:=wg.o
  rw [if_neg De] at d8
  have Eg:=Hy d8
  clear d8 de
  obtain ⟨t0,t1,t2⟩:=ze H4.o.1
  obtain ⟨e0,e1⟩:=zf H4.o.2.1
  have mX:=Hy (dq.o w4 H4.o.2.2.2)
  go_wp2_with fail
  with_reducible refine mX.o.mono ?_
  rintro en wA ⟨rfl,gW⟩
  have e7:=Hy (An (Ob H4.o.1 gW) (An (Ob H4.o.2.1 gW) (An (Ob H4.o.2.2.1 gW) (H4.o.2.2.2.trans (gW.mono H4.o.2.2.2.size)))))
  clear t0 t1 t2 e0 e1 gW
  by_cases cF:ck=0
  ·subst cF
   obtain ⟨t0,t1,t2⟩:=ze e7.o.1
   obtain ⟨e0,e1⟩:=zf e7.o.2.1
   have iV:=Hy (iq.o wA e7.o.2.2.2)
   go_wp2_with fail
   with_reducible refine iV.o.mono ?_
   rintro en wB ⟨rfl,bp⟩
   have fN:=Hy (An (Ob e7.o.1 bp) (An (Ob e7.o.2.1 bp) (An (Ob e7.o.2.2.1 bp) (e7.o.2.2.2.trans (bp.mono e7.o.2.2.2.size)))))
   clear t0 t1 t2 e0 e1 bp
   cases ng with
   | false =>
    have HQ:=Hy (pO.o 64 (by rw [Eg.o];simp) De)
    have H8:=Hy (An fN.o.2.2.1 (An (jZ.o _ fN.o.2.2.2) fN.o.2.2.2))
    obtain ⟨t0,t1,t2⟩:=ze fN.o.1
    obtain ⟨l0,l1,l2⟩:=ze H8.o.1
    have v0:=zc H8.o.1 0
    have v1:=zc H8.o.1 1
    have v2:=zc H8.o.1 2
    go_wp2
    obtain ⟨j0,j1,j2⟩:=ze (zbd H8.o.1 (.slice sa tn tc) (.slice sc' cn cc) (.slice la n lc))
    refine bodyPost_ret (v:=.tuple #[.agg #[.slice sa tn tc,.slice sc' cn cc,.slice la n lc],.int .i64 64]) (by simp [results,results30,go_sem, *]) rfl ?_
    exact ze7
   | true =>
    have HQ:=Hy (An (tj.o (by rw [Eg.o];simp)) (show AC=0 by rw [Eg.o];simp))
    obtain ⟨t0,t1,t2⟩:=ze fN.o.1
    obtain ⟨e0,e1⟩:=zf fN.o.2.1
    have tk:=Hy (iU.o wB fN.o.2.2.2)
    go_wp2_with fail
    with_reducible refine tk.o.mono ?_
    rintro en wC ⟨lvC,rfl,qz,pP⟩
    obtain ⟨oa,oc,rfl⟩:=za8 qz
    have qA:=Ob fN.o.2.2.1 pP
    have mY:=fN.o.2.2.2.trans (pP.mono fN.o.2.2.2.size)
    obtain ⟨pn,rL⟩:=Ex pt.length
    rw [rL] at qz ⊢
    have H8:=Hy (An qA (An qz mY))
    clear qA qz mY pP rL t0 t1 t2 e0 e1
    obtain ⟨l0,l1,l2⟩:=ze H8.o.1
    have v0:=zc H8.o.1 0
    have v1:=zc H8.o.1 1
    have v2:=zc H8.o.1 2
    go_wp2
    obtain ⟨j0,j1,j2⟩:=ze (zbd H8.o.1 (.slice sa tn tc) (.slice sc' cn cc) (.slice oa pn oc))
    refine bodyPost_ret (v:=.tuple #[.agg #[.slice sa tn tc,.slice sc' cn cc,.slice oa pn oc],.int .i64 0]) (by simp [results,results30,go_sem, *]) rfl ?_
    exact zdI (L:=pt) HQ.o (zb1 H8.o.2.1 H8.o.1 _ _ _) (zdj H8.o.2.2 Om _ _ _)
  have tl:((ck:Int) != 0)=true:=by simpa using cF
  have HQ:=Hy (pO.o ck (by rw [Eg.o];simp [cF]) cF)
  have H8:=Hy (An e7.o.2.2.1 (An (jZ.o _ e7.o.2.2.2) e7.o.2.2.2))
  obtain ⟨t0,t1,t2⟩:=ze e7.o.1
  obtain ⟨l0,l1,l2⟩:=ze H8.o.1
  have v0:=zc H8.o.1 0
  have v1:=zc H8.o.1 1
  have v2:=zc H8.o.1 2
  go_wp2
  obtain ⟨j0,j1,j2⟩:=ze (zbd H8.o.1 (.slice sa tn tc) (.slice sc' cn cc) (.slice la n lc))
  refine bodyPost_ret (v:=.tuple #[.agg #[.slice sa tn tc,.slice sc' cn cc,.slice la n lc],.int .i64 (ck:Nat)]) (by simp [results,results30,go_sem, *]) rfl ?_
  exact ze7
end Go.Proofs.YtijglbolppkefaaGreatDoor
