/- The document's plain schema, and. -/
import Derived.Test.YtijglbolppkefaaGreatDoorMScQ
import Derived.Test.YtijglbolppkefaaGreatDoorDtAC
import Derived.Test.YtijglbolppkefaaGreatDoorMMoReg
import Derived.Test.YtijglbolppkefaaGreatDoorDtLR
import Derived.Test.YtijglbolppkefaaGreatDoorDtSV
import Derived.Test.YtijglbolppkefaaGreatDoorMDtRa
import Derived.Test.YtijglbolppkefaaGreatDoorRnJ
set_option linter.unusedVariables false
set_option linter.unusedSimpArgs false
set_option maxHeartbeats 25600000
set_option maxRecDepth 100000
namespace Go.Proofs.YtijglbolppkefaaGreatDoor
open Go.Proofs.Tryz
open Go Go.RowKit Go.Proofs.BerK Go.Proofs.MemK Go.Proofs.UtfK Go.Proofs.RegK Go.Maps Go.WideMaps
def zcs (b:Nat):Nat->Prop:=fun k=>k<b\/b+9<k
theorem zzH (b i:Nat) (h:i<(zav b).length) (g o n c:Nat):((zav b)[i].2.1=.slice (some ⟨g,o,none⟩) n c->b<=g/\g<=b+7)/\((zav b)[i].2.2=.slice (some ⟨g,o,none⟩) n c->b<=g/\g<=b+7):=by
 match i,h with
 | 0,_=>exact ⟨fun e=>by simp [zav] at e,fun e=>by simp [zav] at e⟩
 | 1,_=>exact ⟨fun e=>by simp [zav,slN] at e;omega,fun e=>by simp [zav,slN] at e;omega⟩
 | 2,_=>exact ⟨fun e=>by simp [zav,slN] at e;omega,fun e=>by simp [zav,slN] at e;omega⟩
 | 3,_=>exact ⟨fun e=>by simp [zav,slN] at e;omega,fun e=>by simp [zav,slN] at e;omega⟩
 | 4,_=>exact ⟨fun e=>by simp [zav,slN] at e;omega,fun e=>by simp [zav,slN] at e;omega⟩
theorem zzI {w:World} {b n c n' c':Nat} {t:TypeId} {T:List Ty} {C:List Cl} (hT:zL w (.slice (some ⟨b,0,none⟩) n c) T) (hC:zai w (.slice (some ⟨b+1+8,0,none⟩) n' c') C) (hx:w.heap[b+9]?=some (.cells (zaG (zav (b+1))).toArray t (0,0))) :
  Off (zcs b) w (fun w=>zL w (.slice (some ⟨b,0,none⟩) n c) T/\zai w (.slice (some ⟨b+1+8,0,none⟩) n' c') C):=fun w' hc=>by
 refine ⟨zkB hT hc (fun g o n c e=>by injection e with e;injection e with e;injection e with e;show ¬ (_\/_);omega),?_⟩
 obtain ⟨a,cc,he,hq⟩:=hC
 have hn:¬ zcs b (b+9):=by show ¬ (_\/_);omega
 have eJ:=hc.block (b+9) (zi hx) hn
 refine ⟨a,cc,he,fun i hi=>?_⟩
 obtain ⟨g,o,mu,ma,h1,h2,h3,h4,h5,h6,h7,h8⟩:=hq i hi
 injection he with he _ _
 rw [h1] at he
 injection he with he
 injection he with e1 e2
 subst e2
 have e1:g=b+9:=by omega
 subst e1
 have bG:=fun k=>World.cell?_of_block (w:=w) (a:=⟨b+9,k,none⟩) eJ
 have IM:=h4
 have M1:=h5
 rw [cell_of_row w (b+9) (0+i*3+1) _ t (0,0) hx] at IM
 rw [cell_of_row w (b+9) (0+i*3+2) _ t (0,0) hx] at M1
 have cW:i<(zav (b+1)).length:=by
  rcases Nat.lt_or_ge i (zav (b+1)).length with h | h
  ·exact h
  have h4'':(zaG (zav (b+1))).toArray[0+i*3+1]?=some mu:=IM
  have h0:=(Array.getElem?_eq_some_iff.1 h4'').1
  have h9:5<=i:=h
  have h0:0+i*3+1<15:=h0
  omega
 obtain ⟨_,k1,k2⟩:=zhU (zav (b+1)) i cW
 have k1:mu=(zav (b+1))[i].2.1:=by
  have:=IM
  simp only [Nat.zero_add,List.getElem?_toArray,k1] at this
  injection this with this
  exact this.symm
 have k2:ma=(zav (b+1))[i].2.2:=by
  have:=M1
  simp only [Nat.zero_add,List.getElem?_toArray,k2] at this
  injection this with this
  exact this.symm
 have q:=fun g o n c=>zzH (b+1) i cW g o n c
 exact ⟨b+9,0,mu,ma,h1,Nat.lt_of_lt_of_le h2 hc.size,(bG _).trans h3,(bG _).trans h4,(bG _).trans h5,zhY h6 hc (fun g o n c e=>by have:=(q g o n c).1 (k1.symm.trans e);show ¬ (_\/_);omega),zhY h7 hc (fun g o n c e=>by have:=(q g o n c).2 (k2.symm.trans e);show ¬ (_\/_);omega),h8⟩
def zzJ (w:World) (en:Ending) (w':World):Prop:=∃ tv cv b,en=.returned (.agg #[tv,cv])/\Off (zcs b) w' (fun w=>zL w tv plT/\zai w cv plC)/\(tv=.slice (some ⟨b,0,none⟩) 13 13/\cv=.slice (some ⟨b+1+8,0,none⟩) 5 5)/\w.heap.size<=b/\b+9<w'.heap.size/\Below w.heap.size w w'
theorem zpr (w:World):Calls prog 8 #[] w (zzJ w):=by
 obtain ⟨W0,aN⟩:=Ex (w.alloc (.cells #[.slice none 0 0,.slice none 0 0] 31))
 have x0:=Nw aN
 have aE:=Nb aN
 have H0:=Hy (An x0 aE)
 have gD:=Hy aN
 have HT:=Hy zAY
 have ax:Below W0.heap.size W0 W0:=Br _
 have kM:=Hy ax
 clear aN x0 aE ax
 go_enter func8,ntmps8
 go_wp2_with fail
 rw [gD.o]
 refine (HT.o _ _ _ _).mono ?_
 rintro en w1 ⟨rfl,hb⟩
 have kM:=Hy (kM.o.trans (hb.mono kM.o.size))
 clear hb
 iterate 12
  go_wp2_with fail
  refine (HT.o _ _ _ _).mono ?_
  rintro en w1 ⟨rfl,hb⟩
  have kM:=Hy (kM.o.trans (hb.mono kM.o.size))
  clear hb
 have y1:=Ob H0.o.1 kM.o
 have bi:=zi y1
 obtain ⟨q0,q1⟩:=zf y1
 have p0:=zc y1 0
 have p1:=zc y1 1
 have r0:∀ (a1 a2 a3 a4 a5 a6 a7 a8 a9 fU:Obj),((((((((((w1.alloc a1).alloc a2).alloc a3).alloc a4).alloc a5).alloc a6).alloc a7).alloc a8).alloc a9).alloc fU).cell? ⟨w.heap.size,0,none⟩=some (.slice none 0 0):=fun a1 a2 a3 a4 a5 a6 a7 a8 a9 fU=>((((((((((((Below.refl w1.heap.size w1).alloc Lr a1).alloc Sq a2).alloc Sq a3).alloc Sq a4).alloc Sq a5).alloc Sq a6).alloc Sq a7).alloc Sq a8).alloc Sq a9).alloc Sq fU).cell (p:=⟨w.heap.size,0,none⟩) bi).trans q0
 have f0:∀ (a1 a2 a3 a4 a5 a6 a7 a8 a9 fU:Obj),((((((((((w1.alloc a1).alloc a2).alloc a3).alloc a4).alloc a5).alloc a6).alloc a7).alloc a8).alloc a9).alloc fU).frozen? ⟨w.heap.size,0,none⟩=false:=fun a1 a2 a3 a4 a5 a6 a7 a8 a9 fU=>((((((((((((Below.refl w1.heap.size w1).alloc Lr a1).alloc Sq a2).alloc Sq a3).alloc Sq a4).alloc Sq a5).alloc Sq a6).alloc Sq a7).alloc Sq a8).alloc Sq a9).alloc Sq fU).frozen (p:=⟨w.heap.size,0,none⟩) bi).trans p0
 have r1:∀ (a1 a2 a3 a4 a5 a6 a7 a8 a9 fU:Obj),((((((((((w1.alloc a1).alloc a2).alloc a3).alloc a4).alloc a5).alloc a6).alloc a7).alloc a8).alloc a9).alloc fU).cell? ⟨w.heap.size,1,none⟩=some (.slice none 0 0):=fun a1 a2 a3 a4 a5 a6 a7 a8 a9 fU=>((((((((((((Below.refl w1.heap.size w1).alloc Lr a1).alloc Sq a2).alloc Sq a3).alloc Sq a4).alloc Sq a5).alloc Sq a6).alloc Sq a7).alloc Sq a8).alloc Sq a9).alloc Sq fU).cell (p:=⟨w.heap.size,1,none⟩) bi).trans q1
 have f1:∀ (a1 a2 a3 a4 a5 a6 a7 a8 a9 fU:Obj),((((((((((w1.alloc a1).alloc a2).alloc a3).alloc a4).alloc a5).alloc a6).alloc a7).alloc a8).alloc a9).alloc fU).frozen? ⟨w.heap.size,1,none⟩=false:=fun a1 a2 a3 a4 a5 a6 a7 a8 a9 fU=>((((((((((((Below.refl w1.heap.size w1).alloc Lr a1).alloc Sq a2).alloc Sq a3).alloc Sq a4).alloc Sq a5).alloc Sq a6).alloc Sq a7).alloc Sq a8).alloc Sq a9).alloc Sq fU).frozen (p:=⟨w.heap.size,1,none⟩) bi).trans p1
 have CU:=Hy (H0.o.2.trans (kM.o.mono H0.o.2.size))
 have dA:=zq2 w1 plT 69
 have bG:=zq4 (w1.alloc (.cells (zR plT).toArray 69))
 have gW:=zhX 9 zdm (w1.alloc (.cells (zR plT).toArray 69))
 rw [World.size_alloc] at bG gW
 obtain ⟨WA,CV⟩:=Ex ((zcM 9 (w1.alloc (.cells (zR plT).toArray 69)) zdm).alloc (.cells (zaG (zav (w1.heap.size+1))).toArray 72))
 have bp:Below (w1.heap.size+1) (w1.alloc (.cells (zR plT).toArray 69)) WA:=by rw [<- CV];exact gW.alloc (by have:=gW.size;simpa using this) _
 have CW:Below w1.heap.size w1 (w1.alloc (.cells (zR plT).toArray 69)):=(Br w1).alloc Lr _
 have tV:Below w1.heap.size w1 WA:=CW.trans (bp.mono Om)
 have CX:zL WA (.slice (some ⟨w1.heap.size,0,none⟩) 13 13) plT:=zbc dA (by rw [World.size_alloc];exact bp)
 have CY:zai WA (.slice (some ⟨w1.heap.size+1+8,0,none⟩) 5 5) plC:=by rw [<- CV];exact bG
 have M3:=zj y1 tV bi
 have ch:Chg (fun k=>k=w.heap.size) WA ((WA.setCell ⟨w.heap.size,0,none⟩ (.slice (some ⟨w1.heap.size,0,none⟩) 13 13)).setCell ⟨w.heap.size,1,none⟩ (.slice (some ⟨w1.heap.size+1+8,0,none⟩) 5 5)) :=
  ((Chg.refl (fun k=>k=w.heap.size) WA).setCell (p:=⟨w.heap.size,0,none⟩) (fun _=>rfl) _).setCell (p:=⟨w.heap.size,1,none⟩) (fun _=>rfl) _
 have fx:Below w.heap.size w w1:=CU.o
 have HF:=Hy (An M3 (An CX (An CY (An ch (fx.trans (tV.mono fx.size))))))
 have aA:WA.heap[w1.heap.size+9]?=some (.cells (zaG (zav (w1.heap.size+1))).toArray 72 (0,0)):=by
  rw [<- CV,<- show (zcM 9 (w1.alloc (.cells (zR plT).toArray 69)) zdm).heap.size=w1.heap.size+9 by rw [zq3,World.size_alloc];rfl]
  exact heap_alloc_new _ _
 have IN:=Hy aA
 have IoQ:w.heap.size<=w1.heap.size:=CU.o.size
 clear aA
 have e7:=Hy CV
 have f8:w.heap.size<w1.heap.size:=bi
 clear y1 q0 q1 p0 p1 dA bG gW bp CW tV CX CY M3 ch fx CV
 go_wp2
 change bodyPost _ _ _ _ _ ((((zcM 9 (w1.alloc (.cells (zR plT).toArray 69)) zdm).alloc (.cells (zaG (zav (w1.heap.size+1))).toArray 72)).setCell ⟨w.heap.size,0,none⟩ (.slice (some ⟨w1.heap.size,0,none⟩) 13 13)).setCell ⟨w.heap.size,1,none⟩ (.slice (some ⟨w1.heap.size+1+8,0,none⟩) 5 5))
 rw [e7.o]
 clear r0 r1 f0 f1
 obtain ⟨j0,j1⟩:=zf (zAZ HF.o.1 (.slice (some ⟨w1.heap.size,0,none⟩) 13 13) (.slice (some ⟨w1.heap.size+1+8,0,none⟩) 5 5))
 refine bodyPost_ret (v:=.agg #[.slice (some ⟨w1.heap.size,0,none⟩) 13 13,.slice (some ⟨w1.heap.size+1+8,0,none⟩) 5 5]) (by simp [results,results8,go_sem, *]) rfl ?_
 have dA:=zkB HF.o.2.1 HF.o.2.2.2.1 (fun g o n c e=>by injection e with e;injection e with e;injection e with e;show ¬ g=w.heap.size;omega)
 have bG:=zA0 HF.o.1 HF.o.2.2.2.1 HF.o.2.2.1
 have wk:=(HF.o.2.2.2.1.block (w1.heap.size+9) (zi IN.o) (show ¬ _=_ by omega)).trans IN.o
 refine ⟨_,_,w1.heap.size,rfl,zzI dA bG wk,⟨rfl,rfl⟩,IoQ,Nat.lt_of_lt_of_le (zi IN.o) HF.o.2.2.2.1.size,HF.o.2.2.2.2.trans (HF.o.2.2.2.1.toBelow HF.o.2.2.2.2.size (fun k _ hk=>by have hk:k=w.heap.size:=hk;omega))⟩
end Go.Proofs.YtijglbolppkefaaGreatDoor
namespace Go.Proofs.YtijglbolppkefaaGreatDoor
open Go.Proofs.Tryz
open Go Go.RowKit Go.Proofs.BerK Go.Proofs.MemK Go.Proofs.UtfK Go.Maps Go.WideMaps
variable {w w' w1 : World} {b c g sb : Nat} {S : Nat -> Prop} {L L' : List Ent} {A : List Atr} {dn : Bs} {av : Value}
def zbv (v:Bs):List Atr:=[([111,98,106,101,99,116,99,108,97,115,115],[[100,111,109,97,105,110]]),([100,99],[v])]
def nB:Bs:=[100,99,61,98]
def nAB:Bs:=[100,99,61,97,44,100,99,61,98]
def nC:Bs:=[100,99,61,99]
def nX:Bs:=[68,67,61,120]
def zfO (v:Bs):List Atr:=[([100,99],[v]),([111,98,106,101,99,116,99,108,97,115,115],[[100,111,109,97,105,110]])]
theorem zhu {o:Obj} (h:w.heap[b]?=some o):b<w.heap.size:=(Array.getElem?_eq_some_iff.1 h).1
theorem zps (A:List Atr) (a:Atr):clA (A++[a])=zZ (clA A) (za a.1) a.2:=by
 rw [zoj]
theorem zpt (v:Bs):clA (zbv v)=zfO v:=by
 have e:zbv v=([]++[([111,98,106,101,99,116,99,108,97,115,115],[[100,111,109,97,105,110]])])++[([100,99],[v])]:=rfl
 rw [e,zps,zps,zok]
 rfl
def aw1:List Ent:=[(nB,zfO [66])]
def aw2:List Ent:=[(nB,zfO [66]),(nAB,zfO [97])]
theorem zpu:zP [] (nAB,zbv [97])=32:=by decide +kernel
theorem zpv:zP [] (nB,zbv [66])=0:=by decide +kernel
theorem zzK:zX [] (nB,zbv [66])=aw1:=by unfold zX;rw [if_pos zpv];unfold clE;rw [zpt];decide +kernel
theorem zpw:zP aw1 (nAB,zbv [97])=0:=by decide +kernel
theorem zzL:zX aw1 (nAB,zbv [97])=aw2:=by unfold zX;rw [if_pos zpw];unfold clE;rw [zpt];decide +kernel
theorem zpx:zP aw2 (nB,zbv [98])=68:=by decide +kernel
theorem zpy:zP aw2 (nC,zbv [120])=64:=by decide +kernel
theorem zpz:zaI aw2 nB=66:=by decide +kernel
theorem zpA:zaI aw2 nAB=0/\zaD aw2 nAB=aw1:=by decide +kernel
theorem zpB:zaI aw1 nAB=32:=by decide +kernel
theorem zpC:zP aw1 (nX,zbv [120])=34:=by decide +kernel
theorem zzM:lkE aw2 nB=some (nB,zfO [66]):=by decide +kernel
def TIn (w1 w:World) (sb g:Nat) (S:Nat->Prop) (L:List Ent):Prop :=
 zU w w1.heap.size g (.pointer (some ⟨sb,0,none⟩)) S L/\Below w1.heap.size w1 w/\TrL L/\L.length<=1024
def zeX (w1 w:World) (sb g:Nat) (S:Nat->Prop) (c:Nat) (L:List Ent) (en:Ending) (w':World):Prop :=
 en=.returned (.int .i64 (c:Nat))/\∃ S',TIn w1 w' sb g S' L/\Chg S w w'/\∀ k,S' k->S k\/w.heap.size<=k
theorem zfP {P:World->Prop} (h:TIn w1 w sb g S L) (hp:∀ w',Below w1.heap.size w1 w'->P w'):Off S w P :=
 zts hp h.2.1 (fun k hk=>(zap h.1 k hk).2.1)
theorem zJ (h:TIn w1 w sb g S L) (hb:Below w.heap.size w w'):TIn w1 w' sb g S L :=
 ⟨zeo h.1 hb,h.2.1.trans (hb.mono h.2.1.size),h.2.2⟩
theorem zj9 {en:Ending} (h:TIn w1 w sb g S L) (hT:TrL L') (hl:L'.length<=1024) (hp:zbT c w1.heap.size g (.pointer (some ⟨sb,0,none⟩)) S L' w en w'):zeX w1 w sb g S c L' en w':=by
 obtain ⟨h1,S',h2,h3,h4⟩:=hp
 exact ⟨h1,S',⟨h2,h.2.1.trans (h3.toBelow h.2.1.size (fun k _ hk=>(zap h.1 k hk).2.1)),hT,hl⟩,h3,h4⟩
def Wld (w1:World) (sb:Nat):Prop:=∀ w',Below w1.heap.size w1 w'->ic w' sb plT plC/\zD w'
theorem zpD (hw:Wld w1 sb) (h:TIn w1 w sb g S L) (hA:zak w av A) (hf:zcz A) (hdn:dn.length<=140737488355328) :
  Calls prog 16 #[.pointer (some ⟨g,0,none⟩),.agg #[.string ⟨dn.toArray⟩,av]] w (zeX w1 w sb g S (zP L (dn,A)) (zX L (dn,A))) :=
 (zue _ g sb S L A dn av w h.1 h.2.2.1 h.2.2.2 (zfP h (fun w' hb=>(hw w' hb).1)) (zfP h (fun w' hb=>(hw w' hb).2)) hA hf hdn).mono fun en w' hp =>
  zj9 h (zuE h.2.2.1 _) (zuF h.2.2.1 h.2.2.2 _) hp
theorem zzN (hw:Wld w1 sb) (h:TIn w1 w sb g S L) (hA:zak w av A) (hf:zcz A) (hdn:dn.length<=140737488355328) :
  Calls prog 31 #[.pointer (some ⟨g,0,none⟩),.agg #[.string ⟨dn.toArray⟩,av]] w (zeX w1 w sb g S (zbe L (dn,A)) (zbf L (dn,A))) :=
 (zuh _ g sb S L A dn av w h.1 h.2.2.1 h.2.2.2 (zfP h (fun w' hb=>(hw w' hb).1)) (zfP h (fun w' hb=>(hw w' hb).2)) hA hf hdn).mono fun en w' hp =>
  zj9 h (zuI h.2.2.1 _) (zuJ h.2.2.1 h.2.2.2 _) hp
theorem zpE (hw:Wld w1 sb) (h:TIn w1 w sb g S L) (hdn:dn.length<=140737488355328) :
  Calls prog 19 #[.pointer (some ⟨g,0,none⟩),.string ⟨dn.toArray⟩] w (zeX w1 w sb g S (zaI L dn) (zaD L dn)) :=
 (zui _ g _ S L dn w h.1 h.2.2.1 h.2.2.2 (zfP h (fun w' hb=>(hw w' hb).2)) hdn).mono fun en w' hp =>
  zj9 h (zuG h.2.2.1 _) (zuH h.2.2.2 _) hp
theorem zd8 (hc:zP L (dn,A)=c) (hl:zX L (dn,A)=L') (hw:Wld w1 sb) (h:TIn w1 w sb g S L) (hA:zak w av A) (hf:zcz A) (hdn:dn.length<=140737488355328) :
  Calls prog 16 #[.pointer (some ⟨g,0,none⟩),.agg #[.string ⟨dn.toArray⟩,av]] w (zeX w1 w sb g S c L'):=by
 have:=zpD hw h hA hf hdn
 rwa [hc,hl] at this
theorem zhv (hc:zaI L dn=c) (hl:zaD L dn=L') (hw:Wld w1 sb) (h:TIn w1 w sb g S L) (hdn:dn.length<=140737488355328) :
  Calls prog 19 #[.pointer (some ⟨g,0,none⟩),.string ⟨dn.toArray⟩] w (zeX w1 w sb g S c L'):=by
 have:=zpE hw h hdn
 rwa [hc,hl] at this
theorem zpF {B2 g2:Nat} {sv2:Value} {S' S2:Nat->Prop} {L2:List Ent} (hk:zU w B2 g2 sv2 S2 L2) (h:TIn w1 w sb g S L) (hd:∀ k,S k->¬ S2 k/\k≠g2) (hc:Chg S w w') (hs:∀ k,S' k->S k\/w.heap.size<=k) :
  zU w' B2 g2 sv2 S2 L2/\∀ k,S' k->¬ S2 k/\k≠g2:=by
 refine ⟨ziy hk hc (fun k eV _=>hd k eV) (zeq hc (fun k eV=>(zap h.1 k eV).1)),fun k eV=>?_⟩
 rcases hs k eV with q | q
 ·exact hd k q
 refine ⟨fun h2=>?_,fun e=>?_⟩
 ·have:=(zap hk k h2).2.2.1
  omega
 have:=ztu hk
 omega
theorem zd9 {cs:Array Value} {t:TypeId} {m:Nat × Nat} (h:TIn w1 w sb g S L) (hc:Chg S w w') (hb:w.heap[b]?=some (.cells cs t m)) (ht:t≠79):w'.heap[b]?=some (.cells cs t m):=by
 refine (hc.block b (zhu hb) (fun hS=>?_)).trans hb
 rcases (zap h.1 b hS).1 with ⟨es,c,hm⟩ | ⟨cs',m',hm⟩
 ·rw [hb] at hm;cases hm
 rw [hb] at hm
 injection hm with hm
 injection hm with _ h2 _
 exact ht h2
theorem zeY (v:Bs) (h:v.length<=1000):zcz (zbv v):=by
 have e:∀ a∈zbv v,a.1.length<=100000/\a.2.length<=300/\∀ s∈a.2,s.length<=100000:=by
  intro a ha
  unfold zbv at ha
  simp only [List.mem_cons,List.not_mem_nil,or_false] at ha
  rcases ha with rfl | rfl
  ·exact ⟨by decide,by decide,fun s hs=>by simp at hs;subst hs;decide⟩
  exact ⟨by simp,by simp,fun s hs=>by simp at hs;subst hs;omega⟩
 exact ⟨⟨by simp [zbv],fun a ha=>⟨(e a ha).1,by have:=(e a ha).2.1;omega,(e a ha).2.2⟩⟩,⟨by simp [zbv],e⟩⟩
def zzO (n v:Bs) (w:World) (en:Ending) (w':World):Prop :=
 ∃ b,en=.returned (.agg #[.string ⟨n.toArray⟩,.slice (some ⟨b,0,none⟩) 2 2])/\zak w' (.slice (some ⟨b,0,none⟩) 2 2) (zbv v)/\Below w.heap.size w w'
theorem zeZ (n v:Bs) (w:World):Calls prog 20 #[.string ⟨n.toArray⟩,.string ⟨v.toArray⟩] w (zzO n v w):=by
 obtain ⟨W1,aB⟩:=Ex (w.alloc (.cells #[.string ⟨n.toArray⟩,.slice (some ⟨w.heap.size+1+1+1,0,none⟩) 2 2] 39))
 obtain ⟨W2,aL⟩:=Ex (W1.alloc (.cells #[.string ⟨#[100,111,109,97,105,110]⟩] 9))
 obtain ⟨W3,cU⟩:=Ex (W2.alloc (.cells #[.string ⟨v.toArray⟩] 9))
 obtain ⟨W4,dk⟩:=Ex (W3.alloc (.cells #[.string ⟨#[111,98,106,101,99,116,99,108,97,115,115]⟩,.slice (some ⟨w.heap.size+1,0,none⟩) 1 1,.string ⟨#[100,99]⟩,.slice (some ⟨w.heap.size+1+1,0,none⟩) 1 1] 74))
 have z1:W1.heap.size=w.heap.size+1:=by rw [<- aB];simp
 have z2:W2.heap.size=w.heap.size+1+1:=by rw [<- aL];simp [z1]
 have z3:W3.heap.size=w.heap.size+1+1+1:=by rw [<- cU];simp [z2]
 have xu:=Nb aB
 have IP:=Nb aL
 have IQ:=Nb cU
 have IR:=Nb dk
 have IS:=IQ.trans (IR.mono IQ.size)
 have IT:=IP.trans (IS.mono IP.size)
 have M4:=xu.trans (IT.mono xu.size)
 have y0:W4.heap[w.heap.size]?=some (.cells #[.string ⟨n.toArray⟩,.slice (some ⟨w.heap.size+1+1+1,0,none⟩) 2 2] 39 (0,0)):=by
  refine zj (w:=W1) ?_ IT Om
  rw [<- aB];exact heap_alloc_new w _
 have t1:TxR W4 (.slice (some ⟨w.heap.size+1,0,none⟩) 1 1) [[100,111,109,97,105,110]]:=by
  refine zA (w:=W2) ?_ IS
  rw [<- aL,<- z1];exact zgI W1 [[100,111,109,97,105,110]] 9
 have t2:TxR W4 (.slice (some ⟨w.heap.size+1+1,0,none⟩) 1 1) [v]:=by
  refine zA (w:=W3) ?_ IR
  rw [<- cU,<- z2];exact zgI W2 [v] 9
 have y4:W4.heap[w.heap.size+1+1+1]?=some (.cells (zm [([111,98,106,101,99,116,99,108,97,115,115],.slice (some ⟨w.heap.size+1,0,none⟩) 1 1),([100,99],.slice (some ⟨w.heap.size+1+1,0,none⟩) 1 1)]).toArray 74 (0,0)):=by
  rw [<- dk,<- z3];exact heap_alloc_new W3 _
 have M5:zak W4 (.slice (some ⟨w.heap.size+1+1+1,0,none⟩) 2 2) (zbv v):=by
  obtain ⟨q0,q1⟩:=(show W4.cell? ⟨w.heap.size+1+1+1,0,none⟩=_/\W4.cell? ⟨w.heap.size+1+1+1,1,none⟩=_ from ⟨zq y4 0 _ rfl,zq y4 1 _ rfl⟩)
  have q2:=zq y4 2 _ rfl
  have q3:=zq y4 3 _ rfl
  have hz:=zi y4
  refine ⟨.inr ⟨_,_,_,rfl⟩,_,2,rfl,fun i hi=>?_⟩
  have hi:i<2:=hi
  match i,hi with
  | 0,_=>exact ⟨_,0,_,rfl,hz,q0,q1,t1,.inr ⟨_,_,_,rfl⟩⟩
  | 1,_=>exact ⟨_,0,_,rfl,hz,q2,q3,t2,.inr ⟨_,_,_,rfl⟩⟩
 obtain ⟨x0,x1⟩:=zf y0
 have HW:=Hy (An aB (An aL (An cU dk)))
 have H:=Hy (An M5 M4)
 clear aB aL cU dk z1 z2 z3 xu IP IQ IR IS IT M4 y0 t1 t2 y4 M5
 go_enter func20,ntmps20
 go_wp2_with fail
 rw [HW.o.1,HW.o.2.1,HW.o.2.2.1,HW.o.2.2.2]
 refine bodyPost_ret (v:=.agg #[.string ⟨n.toArray⟩,.slice (some ⟨w.heap.size+1+1+1,0,none⟩) 2 2]) (by simp [results,results20,go_sem,x0,x1]) rfl ?_
 exact ⟨_,rfl,H.o.1,H.o.2⟩
theorem zzP {v:Value} (h:zC w v A):∃ a n c,v=.slice a n c/\n=A.length:=by
 obtain ⟨a,c,e⟩:=zdi h
 exact ⟨a,_,c,e,rfl⟩
theorem ze0 (w:World) (he:zD w):Calls prog 5 #[] w (BB true w):=by
 have HE:=Hy he
 have gd:=Hy (zkC w)
 clear he
 go_enter func5,ntmps5
 go_wp2_with fail
 refine gd.o.mono ?_
 rintro en w1 ⟨sb,rfl,bk,au⟩
 have kv:=Hy (show Wld w1 sb from fun w' hb=>⟨zby bk hb,zax HE.o (au.trans (hb.mono au.size))⟩)
 have cr:=Hy au
 clear bk au
 go_wp2_with fail
 refine (zgf (some ⟨sb,0,none⟩) w1).mono ?_
 rintro en w2 ⟨g,S0,rfl,lf,hS,hg,ak,_⟩
 have H0:=Hy (show TIn w1 w2 sb g S0 [] from ⟨lf,ak,ziN,by decide⟩)
 clear lf hS hg ak
 go_wp2_with fail
 refine (zeZ nAB [97] w2).mono ?_
 rintro en w3 ⟨b3,rfl,jS,aY⟩
 have H3:=Hy (An (zJ H0.o aY) jS)
 clear jS aY
 have rr:=Hy H3.o.1
 go_wp2_with fail
 refine (zd8 (L':=[]) zpu (zfj zpu De) kv.o rr.o H3.o.2 (zeY _ De) De).mono ?_
 rintro en w4 ⟨rfl,S4,ht,hc,hs⟩
 have HT4:=Hy ht
 clear ht hc hs
 go_wp2_with fail
 refine (zeZ nB [66] w4).mono ?_
 rintro en w5 ⟨b5,rfl,jS,aY⟩
 have H5:=Hy (An (zJ HT4.o aY) jS)
 clear jS aY
 have cS:=Hy H5.o.1
 go_wp2_with fail
 refine (zd8 (L':=aw1) zpv zzK kv.o cS.o H5.o.2 (zeY _ De) De).mono ?_
 rintro en w6 ⟨rfl,S6,ht,hc,hs⟩
 have HT6:=Hy ht
 clear ht hc hs
 go_wp2_with fail
 refine (zeZ nAB [97] w6).mono ?_
 rintro en w7 ⟨b7,rfl,jS,aY⟩
 have H7:=Hy (An (zJ HT6.o aY) jS)
 clear jS aY
 have HT7:=Hy H7.o.1
 go_wp2_with fail
 refine (zd8 (L':=aw2) zpw zzL kv.o HT7.o H7.o.2 (zeY _ De) De).mono ?_
 rintro en w8 ⟨rfl,S8,ht,hc,hs⟩
 have HT8:=Hy ht
 clear ht hc hs
 go_wp2_with fail
 refine (zeZ nB [98] w8).mono ?_
 rintro en w9 ⟨b9,rfl,jS,aY⟩
 have H9:=Hy (An (zJ HT8.o aY) jS)
 clear jS aY
 have HT9:=Hy H9.o.1
 go_wp2_with fail
 refine (zd8 (L':=aw2) zpx (zfj zpx De) kv.o HT9.o H9.o.2 (zeY _ De) De).mono ?_
 rintro en fG ⟨rfl,S10,ht,hc,hs⟩
 have IU:=Hy ht
 clear ht hc hs
 go_wp2_with fail
 refine (zeZ nC [120] fG).mono ?_
 rintro en Cs ⟨b11,rfl,jS,aY⟩
 have ij:=Hy (An (zJ IU.o aY) jS)
 clear jS aY
 have IV:=Hy ij.o.1
 go_wp2_with fail
 refine (zd8 (L':=aw2) zpy (zfj zpy De) kv.o IV.o ij.o.2 (zeY _ De) De).mono ?_
 rintro en w12 ⟨rfl,S12,ht,hc,hs⟩
 have IW:=Hy ht
 clear ht hc hs
 go_wp2_with fail
 refine (zhv (L':=aw2) zpz (zfm zpz De) kv.o IW.o De).mono ?_
 rintro en w13 ⟨rfl,IX,ht,hc,hs⟩
 have CZ:=Hy ht
 clear ht hc hs
 go_wp2_with fail
 refine (zjI _ g _ IX aw2 nB w13 CZ.o.1 De Dk).mono ?_
 rintro en M6 ⟨_,hJ,xi⟩
 obtain ⟨xv,rfl,M7⟩:=hJ _ zzM
 obtain ⟨xa,xn,xc,rfl,lj⟩:=zzP M7
 obtain rfl:xn=2:=lj
 have IY:=Hy (zJ CZ.o xi)
 clear hJ xi M7
 obtain ⟨W,hW⟩:=Ex (M6.alloc (.cells #[.string ⟨nB.toArray⟩,.slice xa 2 xc] 39))
 have ax:=Nb hW
 have yW:=Nw hW
 obtain ⟨xb,mF⟩:=Ex M6.heap.size
 have C0:=Hy (zJ IY.o ax)
 have kM:=Hy ax
 have HWW:=Hy hW
 have HXb:=Hy mF
 rw [mF] at yW
 have nZ:=Hy yW
 clear ax hW yW mF
 go_wp2_with fail
 rw [HWW.o]
 try rw [HXb.o]
 refine (zne _ g _ IX aw2 W C0.o.1 C0.o.2.2.1 De).mono ?_
 rintro en w15 ⟨g2,S2,rfl,hk,iC,lh,dM⟩
 have C1:∀ k,IX k->¬ S2 k/\k≠g2:=fun k hq=>by have:=(zap C0.o.1 k hq).2.2.1;exact ⟨fun h2=>by have:=iC k h2;omega,by omega⟩
 have C2:=Hy (An hk C1)
 have vd:=Hy (zJ C0.o dM)
 have IZ:=Hy (Ob nZ.o dM)
 clear hk iC lh dM C1
 go_wp2_with fail
 refine (zhv (L':=aw1) zpA.1 zpA.2 kv.o vd.o De).mono ?_
 rintro en w16 ⟨rfl,S16,ht,hc,hs⟩
 have I0:=Hy (zd9 vd.o hc IZ.o De)
 have C3:=Hy (zpF C2.o.1 vd.o C2.o.2 hc hs)
 have ve:=Hy ht
 clear ht hc hs
 go_wp2_with fail
 refine (zhv (L':=aw1) zpB (zfm zpB De) kv.o ve.o De).mono ?_
 rintro en w17 ⟨rfl,S17,ht,hc,hs⟩
 have I1:=Hy (zd9 ve.o hc I0.o De)
 have C4:=Hy (zpF C3.o.1 ve.o C3.o.2 hc hs)
 have I2:=Hy ht
 clear ht hc hs
 obtain ⟨x0,x1⟩:=zf I1.o
 go_wp2_with fail
 refine (zna _ g2 _ S2 aw2 w17 C4.o.1 C0.o.2.2.1 De).mono ?_
 rintro en v1 ⟨nv,rfl,rM,hb⟩
 obtain ⟨na,nc,rfl⟩:=zh rM
 have tx:=zaL rM
 obtain ⟨V,hV⟩:=Ex (v1.alloc (.cells #[.string ⟨#[100,99,61,98]⟩,.string ⟨#[100,99,61,97,44,100,99,61,98]⟩] 9))
 have I3:=Nb hV
 have tv:TxR V (.slice (some ⟨v1.heap.size,0,none⟩) 2 2) [nB,nAB]:=by rw [<- hV];exact zgI v1 [nB,nAB] 9
 have eO:=hb.trans (I3.mono hb.size)
 have I4:=Hy (zhI (aw2.map (·.1)) [nB,nAB] _ _ V (zA tx I3) tv De De)
 rw [show decide (aw2.map (·.1)=[nB,nAB])=true by decide +kernel] at I4
 have HTv:=Hy (zJ I2.o eO)
 have HOv:=Hy (zeo C4.o.1 eO)
 have HV:=Hy hV
 rw [show (aw2.map (·.1)).length=2 by decide] at I4 ⊢
 clear rM tx I3 tv eO hb hV x0 x1
 go_wp2_with fail
 rw [HV.o]
 refine I4.o.mono ?_
 rintro en v2 ⟨rfl,hb⟩
 have M8:=Hy (zJ HTv.o hb)
 have HOa:=Hy (zeo HOv.o hb)
 clear hb
 go_wp2_with fail
 refine (zge _ g2 _ S2 aw2 v2 HOa.o).mono ?_
 rintro en v3 ⟨rfl,rfl⟩
 rw [show (aw2.length:Nat)=2 from rfl]
 go_wp2_with fail
 refine (zge _ g _ S17 aw1 v2 M8.o.1).mono ?_
 rintro en v4 ⟨rfl,rfl⟩
 rw [show (aw1.length:Nat)=1 from rfl]
 go_wp2_with fail
 refine (zeZ nX [120] v2).mono ?_
 rintro en w18 ⟨b18,rfl,jS,aY⟩
 have M9:=Hy (An (zJ M8.o aY) jS)
 clear jS aY
 have I5:=Hy M9.o.1
 go_wp2_with fail
 refine (zd8 (L':=aw1) zpC (zfj zpC De) kv.o I5.o M9.o.2 (zeY _ De) De).mono ?_
 rintro en w19 ⟨rfl,S19,ht,hc,hs⟩
 have I6:=Hy ht
 clear ht hc hs
 go_wp2
 go_ret
 exact zB rfl (cr.o.trans (I6.o.2.1.mono cr.o.size))
end Go.Proofs.YtijglbolppkefaaGreatDoor
namespace Go.Proofs.YtijglbolppkefaaGreatDoor
open Go.Proofs.Tryz
open Go Go.RowKit Go.Proofs.BerK Go.Proofs.MemK Go.Proofs.UtfK Go.Proofs.RegK Go.Maps Go.WideMaps
variable {W : World} {B b g : Nat} {a1 a2 a3 : Value} {S : Nat -> Prop} {L : List Ent}
theorem zea (W:World) (b:Nat) (x y z:Value):Chg (fun k=>k=b) W (((W.setCell ⟨b,0,none⟩ x).setCell ⟨b,1,none⟩ y).setCell ⟨b,2,none⟩ z) :=
 (((Chg.refl (fun k=>k=b) W).setCell (p:=⟨b,0,none⟩) (fun _=>rfl) x).setCell (p:=⟨b,1,none⟩) (fun _=>rfl) y).setCell (p:=⟨b,2,none⟩) (fun _=>rfl) z
theorem zzQ {v:Value} {A:List Atr} (hx:W.heap[b]?=some (.cells #[a1,a2,a3] 35 (0,0))) (x y z:Value) (h:zC W v A):zC (((W.setCell ⟨b,0,none⟩ x).setCell ⟨b,1,none⟩ y).setCell ⟨b,2,none⟩ z) v A :=
 zhK (zhK (zhK h hx De De x) (zH hx 0 x) De De y) (zH (zH hx 0 x) 1 y) De De z
theorem zzR {sv:Value} (h:zU W B g sv S L) (hx:W.heap[b]?=some (.cells #[a1,a2,a3] 35 (0,0))) (x y z:Value):zU (((W.setCell ⟨b,0,none⟩ x).setCell ⟨b,1,none⟩ y).setCell ⟨b,2,none⟩ z) B g sv S L:=by
 refine ziy h (zea W b x y z) (fun k hk _=>?_) (fun v A hp=>zzQ hx x y z hp)
 have hk:k=b:=hk
 subst hk
 refine ⟨fun hS=>?_,fun e=>?_⟩
 ·rcases (zap h k hS).1 with ⟨es,c,e⟩ | ⟨cs,m,e⟩
  ·rw [hx] at e;cases e
  rw [hx] at e
  injection e with e
  injection e with _ h5 _
  exact absurd h5 De
 obtain ⟨eb,bb,hg⟩:=zmg h
 rw [<- e,hx] at hg
 injection hg with hg
 injection hg with _ h5 _
 exact absurd h5 De
theorem zfQ {w1:World} {sb:Nat} (h:TIn w1 W sb g S L) (hx:W.heap[b]?=some (.cells #[a1,a2,a3] 35 (0,0))) (hB:w1.heap.size<=b) (x y z:Value):TIn w1 (((W.setCell ⟨b,0,none⟩ x).setCell ⟨b,1,none⟩ y).setCell ⟨b,2,none⟩ z) sb g S L :=
 ⟨zzR h.1 hx x y z,h.2.1.trans ((zea W b x y z).toBelow h.2.1.size (fun k _ hk=>by have hk:k=b:=hk;omega)),h.2.2⟩
theorem ze1 {w w':World} {lv:Value} (hs:∀ k,S k->zbA w k) (h:zN w B lv L) (hc:Chg S w w'):zN w' B lv L:=by
 obtain ⟨Lq,⟨h1,h2⟩,h3⟩:=h
 exact ⟨Lq,⟨h1,fun i a b=>⟨(h2 i a b).1,zmf hs (h2 i a b).2 _ hc⟩⟩,zix hs h3 De _ hc⟩
end Go.Proofs.YtijglbolppkefaaGreatDoor
