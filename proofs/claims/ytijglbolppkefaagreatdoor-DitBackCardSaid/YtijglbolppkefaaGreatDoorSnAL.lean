/- Whether names and rules may be. -/
import Derived.Test.YtijglbolppkefaaGreatDoorMLayw
import Derived.Test.YtijglbolppkefaaGreatDoorMDqA
import Derived.Test.YtijglbolppkefaaGreatDoorFoldAE
import Derived.Test.YtijglbolppkefaaGreatDoorChecked
import Derived.Test.YtijglbolppkefaaGreatDoorGenB
import Derived.Maps.OwnOps
import Derived.WalkSpells
import Derived.StillTailTactics
import Derived.Maps.OwnSet
import Derived.Maps.Views
import Derived.StringKeys
import Derived.Test.YtijglbolppkefaaGreatDoorScAD
import Derived.Deep.CutRange
import Derived.Deep.RegionWith
import Derived.Deep.LoopGhost
import Derived.Deep.RegionHeld3
set_option linter.unusedVariables false
set_option linter.unusedSimpArgs false
set_option maxHeartbeats 25600000
set_option maxRecDepth 100000
namespace Go.Proofs.YtijglbolppkefaaGreatDoor
open Go.Proofs.Tryz
open Go Go.RowKit Go.Proofs.BerK Go.Proofs.MemK Go.Proofs.UtfK
theorem zks {p:Prop} (h:p:=by
 go_wp2_with fail
 refine (HF.o _).mono ?_
 rintro en w5 ⟨rfl,ai⟩
 have bY:=Hy (HB.o.trans (ai.mono cQ))
 clear ai e0 e1 e2
 cases bq
 ·have H:=Hy (HA.o rfl)
  go_wp2
  exact ⟨⟨k+1,by omega,by go_num,bY.o,H.o⟩,by simp [intOf];omega⟩
 have H:=Hy (jt.o rfl)
 go_wp2
 go_ret
 exact ⟨_,rfl,by rw [H.o];simp,bY.o⟩):p:=h
theorem zkt {p:Prop} (h:p:=by
 obtain rfl:k=n:=by omega
 have H:=Hy (HN.o (fun j hj=>af j hj (by rw [<- HL.o];exact hj)))
 have HB:=Hy hb
 clear hb af
 go_wp2
 go_ret
 exact ⟨_,rfl,by rw [H.o];rfl,HB.o⟩):p:=h
theorem zku {p:Prop} (h:p:=by
 go_wp2_with fail
 refine (HC.o _).mono ?_
 rintro e w1 ⟨rfl,hw⟩
 obtain rfl:=hw.symm
 go_wp2
 exact ⟨⟨k+1,by omega,by go_num,H.o⟩,by simp [intOf];omega⟩):p:=h
theorem zkv {p:Prop} (h:p:=by
 go_wp2_with fail
 refine (HN.o _).mono ?_
 rintro e w1 ⟨rfl,hw⟩
 obtain rfl:=hw.symm
 go_wp2
 go_ret
 exact zB rfl ((Br _).alloc Lr _)):p:=h
theorem zqF {p:Prop} (h:p:=by
 rw [hR] at HC ⊢
 clear hR
 go_enter func67,ntmps67
 go_wp2_with fail
 refine HC.o.mono ?_
 rintro en w1 ⟨n,rfl,hn,hb⟩
 have H:=Hy hn
 clear hn
 go_wp2
 go_ret
 exact zB H.o.symm hb):p:=h
theorem zqG {p:Prop} (h:p:=by
 rw [hq] at aV
 unfold plV at aV
 clear h hq
 go_enter func78,ntmps78
 go_wp2
 go_ret2
 exact ⟨rfl,rfl⟩):p:=h
theorem zqH {p:Prop} (h:p:=by
 cases i with
 | zero=>rw [e];exact ⟨rfl,rfl,rfl⟩
 | succ i =>
  have:=ih i (by simpa using h)
  rw [e,show (i+1)*3=i*3+1+1+1 by omega]
  simpa using this):p:=h
theorem zqI {p:Prop} (h:p:=by
 clear h h2 hS gU pH wL
 go_enter func22,ntmps22
 go_wp2
 go_ret2
 exact zhW H.o De (Br _)):p:=h
theorem zqJ {p:Prop} (h:p:=by
 go_enter func69,ntmps69
 go_wp2
 go_ret
 exact zag H.o):p:=h
theorem zkw (c:Nat) (w:World):Calls prog 115 #[.int .u8 (c:Nat)] w (za1 (zW c) w):=by
 go_enter func115,ntmps115
 go_wp2
 all_goals (go_ret;refine zag ?_;rw [Bool.eq_iff_iff];simp only [zW,Bool.or_eq_true,Bool.and_eq_true,decide_eq_true_eq,beq_iff_eq,Bool.false_eq_true,iff_false,iff_true] <;> omega)
theorem zBq (r:Int) (w:World):Calls prog 71 #[.int .i64 r] w (za1 (zbp r) w):=by
 go_enter func71,ntmps71
 go_wp2
 all_goals (go_ret;refine zag ?_;rw [Bool.eq_iff_iff];simp only [zbp,Bool.or_eq_true,Bool.and_eq_true,decide_eq_true_eq,beq_iff_eq,Bool.false_eq_true,iff_false,iff_true] <;> omega)
theorem zqK (s:ByteArray) (w:World):Calls prog 69 #[.string s] w (za1 (tyL s.data.toList) w):=by
 by_cases h0:s.size=0
 ·have dS:=zcF s h0
  have H:=Hy (zji s h0)
  clear h0
  exact zqJ
 have dS:=zbW s Om
 by_cases pl:64<s.size
 ·have H:=Hy (zjj s pl)
  have hq:(64:Int)<(s.size:Int):=by omega
  clear h0 pl
  exact zqJ
 have hq:(s.size:Int)<=64:=by omega
 have gj:(0:Int)<(s.size:Int):=by omega
 have hp:0<s.size:=by omega
 by_cases hl:zW s[0].toNat=true
 ·have mh:=Hy (zkw s[0].toNat)
  rw [hl] at mh
  have HB:=Hy (zjh s)
  have HK:=Hy (zjl s hp Om hl)
  clear h0 pl hl
  go_enter func69,ntmps69
  go_wp2_with fail
  refine (mh.o _).mono ?_
  rintro e w1 ⟨rfl,hw⟩
  obtain rfl:=hw.symm
  go_wp2
  go_loop [20] (fun v=>∃ k:Nat,k<=s.size/\v=.int .i64 (k:Nat)/\(s.data.toList.take k).all (fun c=>tcN c.toNat)=true) (fun v=>s.size - (intOf v).toNat)
  case atStart=>exact ⟨0,by omega,rfl,rfl⟩
  case round =>
   obtain ⟨k,hk,rfl,af⟩:=hrel
   by_cases aj:k<s.size
   ·have hb:s[k].toNat<256:=s[k].toNat_lt
    have bh:(k:Int)<(s.size:Int):=by omega
    have HC:=Hy (zkw s[k].toNat)
    by_cases hd:tcN s[k].toNat=true
    ·have H:=Hy (zgK s k aj _ af hd)
     by_cases cZ:zW s[k].toNat=true
     ·rw [cZ] at HC
      clear af hd cZ
      exact zku
     have fw:zW s[k].toNat=false:=by simpa using cZ
     rw [fw] at HC
     obtain ⟨c,hc⟩:=Ex (s[k].toNat)
     have hw:=zjn c (hc ▸ fw) (hc ▸ hd)
     have rm:((48:Int)<=(c:Int)/\(c:Int)<=57)\/((c:Int)<48/\((c:Int) != 45)=false):=by simp;omega
     clear af hd cZ fw hw
     rw [hc] at HC hb
     rcases rm with ⟨g1,g2⟩ | ⟨g1,g2⟩
     ·exact zku
     exact zku
    have pm:tcN s[k].toNat=false:=by simpa using hd
    have H:=Hy (HB.o k aj pm)
    have fw:zW s[k].toNat=false:=by
     cases hq:zW s[k].toNat
     ·rfl
     rw [zjm _ hq] at pm;cases pm
    rw [fw] at HC
    obtain ⟨c,hc⟩:=Ex (s[k].toNat)
    have hw:=zjo c (hc ▸ fw) (hc ▸ pm)
    have rm:((c:Int)<48\/(48:Int)<=(c:Int)/\(57:Int)<(c:Int)):=by omega
    have bL:((c:Int) != 45)=true:=by simp;omega
    clear af hd fw hw pm
    rw [hc] at HC hb
    rcases rm with g1 | ⟨g1,g2⟩
    all_goals
     go_wp2_with fail
     refine (HC.o _).mono ?_
     rintro e w1 ⟨rfl,hw⟩
     obtain rfl:=hw.symm
     go_wp2
     go_ret
     exact zag H.o
   obtain rfl:k=s.size:=by omega
   have H:=Hy (HK.o af)
   clear af
   go_wp2
   go_ret
   exact zag H.o
 have fw:zW s[0].toNat=false:=by simpa using hl
 have mh:=Hy (zkw s[0].toNat)
 rw [fw] at mh
 have H:=Hy (zjk s hp fw)
 clear h0 pl hl fw
 go_enter func69,ntmps69
 go_wp2_with fail
 refine (mh.o _).mono ?_
 rintro e w1 ⟨rfl,hw⟩
 obtain rfl:=hw.symm
 go_wp2
 go_ret
 exact zag H.o
def BB (b:Bool) (w:World) (en:Ending) (w':World):Prop:=en=.returned (.bool b)/\Below w.heap.size w w'
theorem zB {a b:Bool} {w w':World} (h:b=a) (hb:Below w.heap.size w w'):BB b w (.returned (.bool a)) w':=by subst h;exact ⟨rfl,hb⟩
theorem zBr (nm:ByteArray) (r:Int) (sg:Bool) (w:World):Calls prog 68 #[.agg #[.string nm,.int .i64 r,.bool sg]] w (BB (!tyL nm.data.toList) w):=by
 have HN:=Hy (zqK nm)
 obtain ⟨b,hb⟩:=Ex (tyL nm.data.toList)
 rw [hb] at HN ⊢
 clear hb
 go_enter func68,ntmps68
 exact zkv
theorem zBs (nm:ByteArray) (r:Int) (sg:Bool) (w:World):Calls prog 70 #[.agg #[.string nm,.int .i64 r,.bool sg]] w (BB (!zbp r) w):=by
 have HN:=Hy (zBq r)
 obtain ⟨b,hb⟩:=Ex (zbp r)
 rw [hb] at HN ⊢
 clear hb
 go_enter func70,ntmps70
 exact zkv
theorem zBt (nm:ByteArray) (a b:Option Addr) (n c n' c':Nat) (w:World):Calls prog 75 #[.agg #[.string nm,.slice a n c,.slice b n' c']] w (BB (!tyL nm.data.toList) w):=by
 have HN:=Hy (zqK nm)
 obtain ⟨b,hb⟩:=Ex (tyL nm.data.toList)
 rw [hb] at HN ⊢
 clear hb
 go_enter func75,ntmps75
 exact zkv
theorem zBu (nm:ByteArray) (a:Option Addr) (n c:Nat) (w:World):Calls prog 97 #[.agg #[.string nm,.slice a n c]] w (BB (n==0) w):=by
 cases n with
 | zero =>
  go_enter func97,ntmps97
  go_wp2
  go_ret
  exact zB rfl ((Br _).alloc Lr _)
 | succ n =>
  have h:(((n+1:Nat):Int)==0)=false:=by rw [beq_eq_false_iff_ne];omega
  go_enter func97,ntmps97
  go_wp2
  go_ret
  exact zB (by simp;try omega) ((Br _).alloc Lr _)
end Go.Proofs.YtijglbolppkefaaGreatDoor
namespace Go.Proofs.YtijglbolppkefaaGreatDoor
open Go.Proofs.Tryz
open Go Go.RowKit Go.Proofs.BerK Go.Proofs.MemK Go.Maps Go.WideMaps
variable {s : Bs} {S : Nat -> Prop} {w w' : World} {b : Nat} {mv : Value} {N : List (Bs)}
theorem z8:Keyed prog 9 := string_keyed underlying9
theorem zqL (w:World):(zeroValue 3).run prog w=.ok (.int .i64 0) w:=by kernel_rfl
theorem zce (s:Bs) (h:s.length<=140737488355328):keyOf prog 9 (.string ⟨s.toArray⟩)=some (.string s) :=
 keyOf_string_mk underlying9 (s:=⟨s.toArray⟩) (by show s.length<=maxLen;unfold maxLen;omega)
theorem zfU:WideAt.IsKeyLit (.string s):=by simp [WideAt.IsKeyLit]
def ze3 (D:DataW Unit) (N:List (Bs)):Prop :=
 (∀ s:Bs,Maps.has D (.string s)=(ixL N s).isSome)/\(∀ s:Bs,D.atKey (.string s) (.lit (.int .i64 0))=.lit (.int .i64 (((ixL N s).getD 0:Nat):Int)))/\Maps.size D=N.length
def zab (w:World) (mv:Value) (N:List (Bs)):Prop :=
 (mv=.map none/\N=[])\/∃ b D,mv=.map (some b)/\w.ownsMap prog 9 (plainElem (H:=Unit) prog 3) b N.length D/\ze3 D N
theorem zfV (w:World):zab w (.map none) []:=.inl ⟨rfl,rfl⟩
theorem zBv {n:Nat} {D:DataW Unit} (h:w.ownsMap prog 9 (plainElem prog 3) b n D) (hc:Chg S w w') (hs:¬ S b):w'.ownsMap prog 9 (plainElem prog 3) b n D:=by
 have aj:=h.lt
 obtain ⟨es,clock,hb,F,oy,hD⟩:=h
 exact ⟨es,clock,(hc.block b aj hs).trans hb,F,oy,hD⟩
theorem zbJ (h:zab w mv N) (hc:Chg S w w') (hs:∀ b,mv=.map (some b)->¬ S b):zab w' mv N:=by
 rcases h with h | ⟨b,D,rfl,h,hD⟩
 ·exact .inl h
 exact .inr ⟨b,D,rfl,zBv h hc (hs b rfl),hD⟩
theorem zcf (h:zab w mv N) (hb:Below w.heap.size w w'):zab w' mv N :=
 zbJ h (Chg.ofBelow (S:=fun _=>False) hb) Fi
theorem zee {g:Nat} {cs:Array Value} {t:TypeId} {m:Nat × Nat} (h:zab w (.map (some b)) N) (hg:w.heap[g]?=some (.cells cs t m)):b≠g:=by
 rcases h with ⟨h,_⟩ | ⟨b',D,h,hm,_⟩
 ·cases h
 injection h with h;injection h with h;subst h
 obtain ⟨es,clock,hb,_⟩:=hm
 rintro rfl
 rw [hb] at hg;cases hg
theorem zBw {a b:Int} (h:(DataW.lit (.int .i64 a):DataW Unit)=.lit (.int .i64 b)):a=b:=by cases h;rfl
def plV (o:Option Nat):Value:=match o with
 | none=>.tuple #[.int .i64 0,.bool false]
 | some i=>.tuple #[.int .i64 (i:Nat),.bool true]
def zhQ (o:Option Nat) (w:World) (en:Ending) (w':World):Prop:=en=.returned (plV o)/\w=w'
theorem zfW (h:zab w mv N) (s:Bs) (hs:s.length<=140737488355328) :
  (Instr.lookup 94 mv (.string ⟨s.toArray⟩) true).run prog w=.ok (plV (ixL N s)) w:=by
 rcases h with ⟨rfl,rfl⟩ | ⟨b,D,rfl,h,h1,h2,_⟩
 ·exact Maps.look_nil true z8 underlying94 (zqL w) (zce s hs)
 obtain ⟨v,ps,aV,hv⟩:=h.look_ok z8 underlying94 (zqL w) (plainElem_int underlying3 De) (zce s hs)
 rw [aV]
 obtain ⟨c,rfl,hc,_⟩:=plainElem_int_inv underlying3 hv
 have e:c=(((ixL N s).getD 0:Nat):Int):=by
  have e1:=congrArg Prod.fst hc
  have e2:=(h2 s).symm.trans e1
  exact (zBw e2).symm
 rw [e,h1]
 cases hq:ixL N s with
 | none=>rfl
 | some i=>rfl
theorem zhR (g o:Nat) (mv:Value) (N:List (Bs)) (s:Bs) (w:World) (hc:w.cell? ⟨g,o,none⟩=some mv) (h:zab w mv N) (hs:s.length<=140737488355328) :
  Calls prog 78 #[.pointer (some ⟨g,o,none⟩),.string ⟨s.toArray⟩] w (zhQ (ixL N s) w):=by
 have aV:=zfW h s hs
 cases hq:ixL N s with
 | none =>
  exact zqG
 | some i =>
  exact zqG
theorem zkx {D:DataW Unit} (hT:Tidy D) (h:ze3 D N) (hn:ixL N s=none):ze3 (D.put (.string s) (.lit (.int .i64 (N.length:Nat)))) (N++[s]):=by
 obtain ⟨h1,h2,h3⟩:=h
 have hh:Maps.has D (.string s)=false:=by rw [h1,hn];rfl
 refine ⟨fun k=>?_,fun k=>?_,?_⟩
 ·rw [zjO]
  by_cases e:k=s
  ·subst e
   rw [has_put_same hT.isMap zfU,hn]
   simp
  have e2:(s==k)=false:=by simpa using fun h=>e h.symm
  rw [has_put_other (fun q=>e (by injection q)),h1,e2]
  simp
 ·rw [zjO]
  by_cases e:k=s
  ·subst e
   rw [atKey_put_same hT.isMap zfU,hn]
   simp
  have e2:(s==k)=false:=by simpa using fun h=>e h.symm
  rw [atKey_put_other (fun q=>e (by injection q)),h2,e2]
  simp
 rw [size_put hT,hh,h3];simp
def zky (cs:Array Value) (t:TypeId) (g o:Nat) (mv:Value) (N:List (Bs)) (s:Bs) (w:World) (en:Ending) (w':World):Prop :=
 (∀ i,ixL N s=some i->en=.returned (.bool false)/\w=w') /\
 (ixL N s=none->∃ b,en=.returned (.bool true)/\w'.heap[g]?=some (.cells (cs.setIfInBounds o (.map (some b))) t (0,0))/\zab w' (.map (some b)) (N++[s])/\(mv=.map (some b)\/(mv=.map none/\w.heap.size<=b))/\Chg (fun k=>k=g\/mv=.map (some k)) w w')
theorem zqM:ze3 (.map []) []:=⟨fun s=>rfl,fun s=>rfl,rfl⟩
theorem zBx (g o:Nat) (mv:Value) (N:List (Bs)) (s:Bs) (w:World) (i:Nat) (hq:ixL N s=some i) (hc:w.cell? ⟨g,o,none⟩=some mv) (h:zab w mv N) (hs:s.length<=140737488355328) :
  Calls prog 73 #[.pointer (some ⟨g,o,none⟩),.string ⟨s.toArray⟩] w (fun en w'=>en=.returned (.bool false)/\w=w'):=by
 have aV:=zfW h s hs
 rw [hq] at aV
 unfold plV at aV
 clear h hq
 go_enter func73,ntmps73
 go_wp2
 go_ret
 exact ⟨rfl,rfl⟩
theorem zBy (g o:Nat) (cs:Array Value) (t:TypeId) (s:Bs) (w:World) (hg:w.heap[g]?=some (.cells cs t (0,0))) (ho:cs[o]?=some (.map none)) (hs:s.length<=140737488355328) :
  Calls prog 73 #[.pointer (some ⟨g,o,none⟩),.string ⟨s.toArray⟩] w (zky cs t g o (.map none) [] s w):=by
 have hc:=zq hg o _ ho
 have hf:=zc hg o
 have bZ:=zi hg
 have aV:(Instr.lookup 94 (.map none) (.string ⟨s.toArray⟩) true).run prog w=.ok (.tuple #[.int .i64 0,.bool false]) w:=zfW (zfV w) s hs
 have qT:∀ (w:World) (r:Option Nat),(binOp .eql 94 (.map r) (.map none)).run prog w=.ok (.bool r.isNone) w:=fun w r=>run_eql_map_nil w _ _ _ r underlying94
 have ct:=@run_makeMap prog
 have hk:=zce s hs
 obtain ⟨W1,aB⟩:=Ex ((w.setCell ⟨g,o,none⟩ (.map (some w.heap.size))).alloc (.map #[] 0))
 have ab:W1.ownsMap prog 9 (plainElem (H:=Unit) prog 3) w.heap.size 0 (.map []):=by
  rw [<- aB]
  have hm:=World.ownsMap_made (w.setCell ⟨g,o,none⟩ (.map (some w.heap.size))) prog 9 (plainElem (H:=Unit) prog 3)
  rw [show (w.setCell ⟨g,o,none⟩ (.map (some w.heap.size))).heap.size=w.heap.size by simp] at hm
  exact hm
 have bI:W1.heap[g]?=some (.cells (cs.setIfInBounds o (.map (some w.heap.size))) t (0,0)):=by
  rw [<- aB]
  exact za0 (zH hg o _) _
 have ib:o<cs.size:=(Array.getElem?_eq_some_iff.1 ho).1
 have eX:W1.cell? ⟨g,o,none⟩=some (.map (some w.heap.size)):=zq bI o _ (by simp [ib])
 have bj:Chg (fun k=>k=g\/(Value.map none)=.map (some k)) w W1:=by
  rw [<- aB]
  exact ((Chg.refl _ w).setCell (p:=⟨g,o,none⟩) (fun _=>.inl rfl) _).alloc _
 have aF:∀ ty,(Builtin.len_ #[94] ty #[.map (some w.heap.size)]).run prog W1.drew=.ok (.int .i64 0) W1.drew:=fun ty=>ab.drew.len underlying94 ty
 obtain ⟨b,hb⟩:=Ex w.heap.size
 have HH:=Hy (An ab (An bI (An bj hb)))
 have HK:=Hy hk
 have HW:=Hy aB
 have HL:=Hy aF
 have HC:=Hy eX
 clear hg ho hs ib ab bI bj hb hk aB aF eX
 go_enter func73,ntmps73
 go_wp2
 rw [HW.o]
 have eX:=HC.o
 have p7:W1.drew.cell? ⟨g,o,none⟩=_:=HC.o
 have aF:=HL.o
 clear hc aV
 go_still_tail 10,Kr
 change wpList _ _ _ _ _ W1.drew
 have ab:=HH.o.1.drew
 have hk:=HK.o
 clear eX p7 aF qT ct
 go_wp2_with (at_mapUpdate;refine wpList_mapUpdate_own _ rfl _ _ _ 94 rfl 9 3 z8 underlying94 _ w.heap.size 0 _ rfl ab Mx _ _ _ rfl rfl hk _ [] (plainElem_int underlying3 De) ?_;intro w1 bS bN)
 go_ret
 refine ⟨fun i h=>by simp [ixL] at h,fun _=>⟨w.heap.size,rfl,?_,?_,.inr ⟨rfl,Nat.le_refl _⟩,?_⟩⟩
 ·exact zV (w:=W1.drew) HH.o.2.1 (Chg.ofGrown bN) (by intro h;injection h with h;omega)
 ·exact .inr ⟨_,_,rfl,bS,zkx (N:=[]) (HH.o.1.tidy z8) zqM rfl⟩
 exact HH.o.2.2.1.drew.trans (Chg.ofGrown bN) (fun k hk h=>by injection h with h;omega)
theorem zBz (g o b:Nat) (cs:Array Value) (t:TypeId) (N:List (Bs)) (s:Bs) (w:World) (hq:ixL N s=none) (hg:w.heap[g]?=some (.cells cs t (0,0))) (ho:cs[o]?=some (.map (some b))) (h:zab w (.map (some b)) N) (hN:N.length<=1000000) (hs:s.length<=140737488355328) :
  Calls prog 73 #[.pointer (some ⟨g,o,none⟩),.string ⟨s.toArray⟩] w (zky cs t g o (.map (some b)) N s w):=by
 have hc:=zq hg o _ ho
 have aH:=zee h hg
 have aV:(Instr.lookup 94 (.map (some b)) (.string ⟨s.toArray⟩) true).run prog w=.ok (.tuple #[.int .i64 0,.bool false]) w:=by
  have:=zfW h s hs
  rw [hq] at this;exact this
 have qT:∀ (w:World) (r:Option Nat),(binOp .eql 94 (.map r) (.map none)).run prog w=.ok (.bool r.isNone) w:=fun w r=>run_eql_map_nil w _ _ _ r underlying94
 have hk:=zce s hs
 have NQ:=(Array.getElem?_eq_some_iff.1 ho).1
 obtain ⟨D,ab,hD⟩:∃ D,w.ownsMap prog 9 (plainElem (H:=Unit) prog 3) b N.length D/\ze3 D N:=by
  rcases h with ⟨h,_⟩ | ⟨b',D,h,hm,hD⟩
  ·cases h
  injection h with h;injection h with h;subst h;exact ⟨D,hm,hD⟩
 have aW:=hD.2.2
 have aF:∀ ty,(Builtin.len_ #[94] ty #[.map (some b)]).run prog w.drew=.ok (.int .i64 (N.length:Nat)) w.drew:=fun ty=>by
  rw [<- aW];exact ab.drew.len underlying94 ty
 have p7:w.drew.cell? ⟨g,o,none⟩=_:=hc
 have er:cs.setIfInBounds o (.map (some b))=cs:=by
  apply Array.ext_getElem?
  intro i
  rw [Array.getElem?_setIfInBounds]
  split
  ·rename_i e
   subst e
   simp [NQ]
   rw [Array.getElem?_eq_getElem NQ] at ho
   injection ho with ho
   rw [ho]
  rfl
 have HH:=Hy (An ab (An hg (An hD (An hq (An aH er)))))
 have HK:=Hy hk
 clear hg ho hs ab hk hD hq aH er aW h
 go_enter func73,ntmps73
 go_wp2
 go_still_tail 10,Kr
 change wpList _ _ _ _ _ w.drew
 have ab:=HH.o.1.drew
 have hk:=HK.o
 clear hc p7 aF qT aV
 have hw:(Lit.int .i64 (N.length:Nat)).wf=true:=WalkArith.wf_i64 Om
 go_wp2_with (at_mapUpdate;refine wpList_mapUpdate_own _ rfl _ _ _ 94 rfl 9 3 z8 underlying94 _ b N.length _ rfl ab Mx _ _ _ rfl rfl hk _ [] (plainElem_int underlying3 hw) ?_;intro w1 bS bN)
 go_ret
 refine ⟨fun i h=>(by rw [HH.o.2.2.2.1] at h;cases h),fun _=>⟨b,rfl,?_,?_,.inl rfl,?_⟩⟩
 ·rw [HH.o.2.2.2.2.2]
  exact zV (w:=w.drew) HH.o.2.1 (Chg.ofGrown bN) (by intro h;injection h with h;exact HH.o.2.2.2.2.1 h.symm)
 ·refine .inr ⟨_,_,rfl,?_,zkx (HH.o.1.tidy z8) HH.o.2.2.1 HH.o.2.2.2.1⟩
  rw [List.length_append]
  exact bS
 exact (Chg.refl _ w).drew.trans (Chg.ofGrown bN) (fun k hk h=>by injection h with h;exact .inr (by rw [h]))
theorem zhS (g o:Nat) (cs:Array Value) (t:TypeId) (mv:Value) (N:List (Bs)) (s:Bs) (w:World) (hg:w.heap[g]?=some (.cells cs t (0,0))) (ho:cs[o]?=some mv) (h:zab w mv N) (hN:N.length<=1000000) (hs:s.length<=140737488355328) :
  Calls prog 73 #[.pointer (some ⟨g,o,none⟩),.string ⟨s.toArray⟩] w (zky cs t g o mv N s w):=by
 cases hq:ixL N s with
 | some i =>
  refine (zBx g o mv N s w i hq (zq hg o _ ho) h hs).mono fun en w' he=>⟨fun _ _=>he,fun hn=>?_⟩
  rw [hq] at hn;cases hn
 | none =>
  obtain ⟨rfl,rfl⟩ | ⟨b,D,rfl,hm,hD⟩:=id h
  ·exact zBy g o cs t s w hg ho hs
  exact zBz g o b cs t N s w hq hg ho h hN hs
end Go.Proofs.YtijglbolppkefaaGreatDoor
namespace Go.Proofs.YtijglbolppkefaaGreatDoor
open Go.Proofs.Tryz
open Go Go.RowKit Go.Proofs.BerK Go.Proofs.MemK Go.Proofs.UtfK
theorem zdJ {α:Type} {l:List α} {q:α->Bool} (i:Nat) (hi:i<l.length) (h:q l[i]=true):l.any q=true:=by
 rw [List.any_eq_true];exact ⟨l[i],List.getElem_mem hi,h⟩
theorem zdK {α:Type} {l:List α} {q:α->Bool} (h:∀ i (hi:i<l.length),q l[i]=false):l.any q=false:=by
 rw [List.any_eq_false]
 intro x hx
 obtain ⟨j,hj,rfl⟩:=List.getElem_of_mem hx
 simp [h j hj]
theorem zdL {v:Value} (h:zam v):∃ a n c,v=.slice a n c:=by
 rcases h with rfl | ⟨ad,n,c,rfl⟩
 ·exact ⟨_,_,_,rfl⟩
 exact ⟨_,_,_,rfl⟩
def ze4 (b:Bool) (w:World) (en:Ending) (w':World):Prop:=∃ n:Int,en=.returned (.int .i64 n)/\decide (0<=n)=b/\Below w.heap.size w w'
theorem zBA (T:List Ty) (tv:Value) (w:World) (h:zL w tv T) (hl:T.length<=1000000) :
  Calls prog 114 #[tv,.func (.func 68) #[] #[]] w (ze4 (T.any fun t => !tyL t.1) w):=by
 obtain ⟨a,c,rfl,ae⟩:=h
 have HM:=Hy ae
 obtain ⟨n,hn⟩:=Ex T.length
 have HL:=Hy hn
 have HY:=Hy (zdJ (l:=T) (q:=fun t => !tyL t.1))
 have HN:=Hy (zdK (l:=T) (q:=fun t => !tyL t.1))
 obtain ⟨R,hR⟩:=Ex (T.any fun t => !tyL t.1)
 rw [hR] at HY HN ⊢
 rw [hn] at hl ⊢
 clear ae hn hR
 go_enter func114,ntmps114
 go_wp2
 go_loopw [8] (fun v wr=>∃ k:Nat,k<=n/\v=.int .i64 (k:Nat)/\Below w.heap.size w wr/\∀ j (hj:j<T.length),j<k->(!tyL T[j].1)=false) (fun v _=>n - (intOf v).toNat)
 case atStart=>exact ⟨0,by omega,rfl,Br _,fun j _ h=>by omega⟩
 case round =>
  obtain ⟨k,hk,rfl,hb,af⟩:=hrel
  have cQ:=hb.size
  by_cases aj:k<n
  ·have bh:(k:Int)<(n:Int):=by omega
   have aO:k<T.length:=by rw [HL.o];exact aj
   obtain ⟨g,o,rfl,hg,aU,aP,cI⟩:=HM.o k aO
   have e0:=(hb.cell (p:=⟨g,_,none⟩) hg).trans aU
   have e1:=(hb.cell (p:=⟨g,_,none⟩) hg).trans aP
   have e2:=(hb.cell (p:=⟨g,_,none⟩) hg).trans cI
   obtain ⟨bq,aX⟩:=Ex (!tyL T[k].1)
   have jt:=Hy (fun hx=>HY.o k aO (by rw [aX];exact hx))
   have HA:=Hy (fun (hx:bq=false) j (hj:j<T.length) (fB:j<k+1)=>(show (!tyL T[j].1)=false by
    by_cases ji:j=k
    ·subst ji;rw [aX];exact hx
    exact af j hj Om))
   obtain ⟨nm,aJ⟩:=Ex (T[k].1)
   obtain ⟨rl,bP⟩:=Ex (T[k].2.1)
   obtain ⟨sg,fL⟩:=Ex (T[k].2.2)
   rw [aJ] at e0
   rw [bP] at e1
   rw [fL] at e2
   have HF:=Hy (fun w=>show Calls prog 68 #[.agg #[.string ⟨nm.toArray⟩,.int .i64 rl,.bool sg]] w (BB bq w) by have:=zBr ⟨(T[k].1).toArray⟩ (T[k].2.1) (T[k].2.2) w;rw [<- aJ,<- bP,<- fL,<- aX];exact this)
   have HB:=Hy hb
   clear hb af aU aP cI aX aJ bP fL
   exact zks
  exact zkt
theorem zBB (T:List Ty) (tv:Value) (w:World) (h:zL w tv T) (hl:T.length<=1000000) :
  Calls prog 67 #[tv,.func (.func 68) #[] #[]] w (BB (T.any fun t => !tyL t.1) w):=by
 have HC:=Hy (zBA T tv w h hl)
 obtain ⟨a,c,rfl,_⟩:=h
 obtain ⟨R,hR⟩:=Ex (T.any fun t => !tyL t.1)
 exact zqF
theorem zBC (T:List Ty) (tv:Value) (w:World) (h:zL w tv T) (hl:T.length<=1000000) :
  Calls prog 114 #[tv,.func (.func 70) #[] #[]] w (ze4 (T.any fun t => !zbp t.2.1) w):=by
 obtain ⟨a,c,rfl,ae⟩:=h
 have HM:=Hy ae
 obtain ⟨n,hn⟩:=Ex T.length
 have HL:=Hy hn
 have HY:=Hy (zdJ (l:=T) (q:=fun t => !zbp t.2.1))
 have HN:=Hy (zdK (l:=T) (q:=fun t => !zbp t.2.1))
 obtain ⟨R,hR⟩:=Ex (T.any fun t => !zbp t.2.1)
 rw [hR] at HY HN ⊢
 rw [hn] at hl ⊢
 clear ae hn hR
 go_enter func114,ntmps114
 go_wp2
 go_loopw [8] (fun v wr=>∃ k:Nat,k<=n/\v=.int .i64 (k:Nat)/\Below w.heap.size w wr/\∀ j (hj:j<T.length),j<k->(!zbp T[j].2.1)=false) (fun v _=>n - (intOf v).toNat)
 case atStart=>exact ⟨0,by omega,rfl,Br _,fun j _ h=>by omega⟩
 case round =>
  obtain ⟨k,hk,rfl,hb,af⟩:=hrel
  have cQ:=hb.size
  by_cases aj:k<n
  ·have bh:(k:Int)<(n:Int):=by omega
   have aO:k<T.length:=by rw [HL.o];exact aj
   obtain ⟨g,o,rfl,hg,aU,aP,cI⟩:=HM.o k aO
   have e0:=(hb.cell (p:=⟨g,_,none⟩) hg).trans aU
   have e1:=(hb.cell (p:=⟨g,_,none⟩) hg).trans aP
   have e2:=(hb.cell (p:=⟨g,_,none⟩) hg).trans cI
   obtain ⟨bq,aX⟩:=Ex (!zbp T[k].2.1)
   have jt:=Hy (fun hx=>HY.o k aO (by rw [aX];exact hx))
   have HA:=Hy (fun (hx:bq=false) j (hj:j<T.length) (fB:j<k+1)=>(show (!zbp T[j].2.1)=false by
    by_cases ji:j=k
    ·subst ji;rw [aX];exact hx
    exact af j hj Om))
   obtain ⟨nm,aJ⟩:=Ex (T[k].1)
   obtain ⟨rl,bP⟩:=Ex (T[k].2.1)
   obtain ⟨sg,fL⟩:=Ex (T[k].2.2)
   rw [aJ] at e0
   rw [bP] at e1
   rw [fL] at e2
   have HF:=Hy (fun w=>show Calls prog 70 #[.agg #[.string ⟨nm.toArray⟩,.int .i64 rl,.bool sg]] w (BB bq w) by have:=zBs ⟨(T[k].1).toArray⟩ (T[k].2.1) (T[k].2.2) w;rw [<- aJ,<- bP,<- fL,<- aX];exact this)
   have HB:=Hy hb
   clear hb af aU aP cI aX aJ bP fL
   exact zks
  exact zkt
theorem zBD (T:List Ty) (tv:Value) (w:World) (h:zL w tv T) (hl:T.length<=1000000) :
  Calls prog 67 #[tv,.func (.func 70) #[] #[]] w (BB (T.any fun t => !zbp t.2.1) w):=by
 have HC:=Hy (zBC T tv w h hl)
 obtain ⟨a,c,rfl,_⟩:=h
 obtain ⟨R,hR⟩:=Ex (T.any fun t => !zbp t.2.1)
 exact zqF
theorem zBE (T:List Cl) (tv:Value) (w:World) (h:zai w tv T) (hl:T.length<=1000000) :
  Calls prog 116 #[tv,.func (.func 75) #[] #[]] w (ze4 (T.any fun t => !tyL t.1) w):=by
 obtain ⟨a,c,rfl,ae⟩:=h
 have HM:=Hy ae
 obtain ⟨n,hn⟩:=Ex T.length
 have HL:=Hy hn
 have HY:=Hy (zdJ (l:=T) (q:=fun t => !tyL t.1))
 have HN:=Hy (zdK (l:=T) (q:=fun t => !tyL t.1))
 obtain ⟨R,hR⟩:=Ex (T.any fun t => !tyL t.1)
 rw [hR] at HY HN ⊢
 rw [hn] at hl ⊢
 clear ae hn hR
 go_enter func116,ntmps116
 go_wp2
 go_loopw [8] (fun v wr=>∃ k:Nat,k<=n/\v=.int .i64 (k:Nat)/\Below w.heap.size w wr/\∀ j (hj:j<T.length),j<k->(!tyL T[j].1)=false) (fun v _=>n - (intOf v).toNat)
 case atStart=>exact ⟨0,by omega,rfl,Br _,fun j _ h=>by omega⟩
 case round =>
  obtain ⟨k,hk,rfl,hb,af⟩:=hrel
  have cQ:=hb.size
  by_cases aj:k<n
  ·have bh:(k:Int)<(n:Int):=by omega
   have aO:k<T.length:=by rw [HL.o];exact aj
   obtain ⟨g,o,mu,ma,rfl,hg,aU,aP,cI,_,_,h7,h8⟩:=HM.o k aO
   obtain ⟨a1,n1,c1,rfl⟩:=zdL h7
   obtain ⟨a2,n2,c2,rfl⟩:=zdL h8
   have e0:=(hb.cell (p:=⟨g,_,none⟩) hg).trans aU
   have e1:=(hb.cell (p:=⟨g,_,none⟩) hg).trans aP
   have e2:=(hb.cell (p:=⟨g,_,none⟩) hg).trans cI
   obtain ⟨bq,aX⟩:=Ex (!tyL T[k].1)
   have jt:=Hy (fun hx=>HY.o k aO (by rw [aX];exact hx))
   have HA:=Hy (fun (hx:bq=false) j (hj:j<T.length) (fB:j<k+1)=>(show (!tyL T[j].1)=false by
    by_cases ji:j=k
    ·subst ji;rw [aX];exact hx
    exact af j hj Om))
   obtain ⟨nm,aJ⟩:=Ex (T[k].1)
   rw [aJ] at e0
   have HF:=Hy (fun w=>show Calls prog 75 #[.agg #[.string ⟨nm.toArray⟩,.slice a1 n1 c1,.slice a2 n2 c2]] w (BB bq w) by have:=zBt ⟨(T[k].1).toArray⟩ a1 a2 n1 c1 n2 c2 w;rw [<- aJ,<- aX];exact this)
   have HB:=Hy hb
   clear hb af aU aP cI aX aJ h7 h8
   exact zks
  exact zkt
theorem zBF (T:List Cl) (tv:Value) (w:World) (h:zai w tv T) (hl:T.length<=1000000) :
  Calls prog 74 #[tv,.func (.func 75) #[] #[]] w (BB (T.any fun t => !tyL t.1) w):=by
 have HC:=Hy (zBE T tv w h hl)
 obtain ⟨a,c,rfl,_⟩:=h
 obtain ⟨R,hR⟩:=Ex (T.any fun t => !tyL t.1)
 rw [hR] at HC ⊢
 clear hR
 go_enter func74,ntmps74
 go_wp2_with fail
 refine HC.o.mono ?_
 rintro en w1 ⟨n,rfl,hn,hb⟩
 have H:=Hy hn
 clear hn
 go_wp2
 go_ret
 exact zB H.o.symm hb
end Go.Proofs.YtijglbolppkefaaGreatDoor
namespace Go.Proofs.MemK
open Go Go.RowKit Go.Proofs.BerK
theorem zqN {P:Program} {ops:Array Oper} {o:Oper} {a:Act} {w1:World} {K:Act->World->Prop} {Q:Exit->Act->World->Prop} {E:Prop}
  (dJ:o.guard=none) (s x:Operand) (t e:TypeId) (ho:o.op=Op.call { callee:=Callee.builtin Builtin.append,args:=#[s,x],argTypes:=#[t,t] })
  (base size bytes:Nat) (z:Value) (h5:(P.info? e).map (fun i=>(i.zero,i.size,i.bytes))=some (some z,size,bytes)) (ht:P.underlying t=some (.slice e)) (jf:z.cells.size=size) (aW:0<size)
  (w:World) (us:List Value) (f8:w1=w.alloc (.cells us.toArray e)) (qg:us.length=1*size) (hu:∀ u∈us,u.oneCell'=true)
  (v:Value) (n:Nat) (xs:List Value) (hs:a.eval s=v) (g:Nat) (hx:a.eval x=.slice (some ⟨g,0,none⟩) 1 1) (hg:g=w.heap.size) (ab:w.ownsRow base e size v n xs)
  (mf:n+1<=maxLen) (cd:(n+1)*bytes<=140737488355328) (c8:base<=w.heap.size)
  (h:∀ v' w',w'.ownsRow base e size v' (n+1) (xs++us)->Chg (fun k=>some k=v.ownBlock) w w'->(v'.ownBlock=v.ownBlock\/∃ k,v'.ownBlock=some k/\w.heap.size<=k)->K (a.put o.dst v') w') :
  if Region.wanted o (yielded ops a.tmps)=true then Oper.wp P o a w1 K Q else E:=by
 have hw:Region.wanted o (yielded ops a.tmps)=true:=by simp [Region.wanted,dJ]
 rw [if_pos hw]
 subst hg f8
 obtain ⟨i,hi,bO,bi,ce⟩:=info_parts h5
 obtain ⟨v',w',hr,h2,h3,_,h4⟩:=run_append_own_at (P:=P) (w.alloc (.cells us.toArray e)) base t o.type e i z size bytes ht hi bO bi ce jf aW v n xs (ab.alloc _) ⟨w.heap.size,0,none⟩ 1 1 us qg (zeB w us e) hu mf cd So
 unfold Oper.wp execOp
 simp only [ho,resolve,invoke,builtin,Sem.run_bind,Sem.run_pure,Result.andThen_ok,List.map_toArray,List.map_cons,List.map_nil,hs,hx,hr]
 refine h v' w' h2 (((Chg.refl _ w).alloc _).trans (Chg.ofGrown h3) Fi) ?_
 rcases h4 with h4 | h4
 ·exact .inl h4
 exact .inr ⟨_,h4,by simp⟩
end Go.Proofs.MemK
namespace Go.Proofs.YtijglbolppkefaaGreatDoor
open Go.Proofs.Tryz
open Go Go.RowKit Go.Proofs.BerK Go.Proofs.MemK Go.Proofs.UtfK
variable {w w' : World} {B b g n size : Nat} {v : Value} {T : List Ty} {N : List (Bs)} {s : Bs} {e : TypeId} {xs : List Value} {S : Nat -> Prop} {c : Cl} {q : Bs × Value × Value} {C : List Cl} {L : List (Bs × Value × Value)} {A : List Atr}
theorem Tryz.sninfo69 : (prog.info? 69).map (fun i=>(i.zero,i.size,i.bytes))=some (some (.agg #[.string ByteArray.empty,.int .i64 0,.bool false]),3,32):=by kernel_rfl
theorem Tryz.sninfo72 : (prog.info? 72).map (fun i=>(i.zero,i.size,i.bytes))=some (some (.agg #[.string ByteArray.empty,.slice none 0 0,.slice none 0 0]),3,64):=by kernel_rfl
theorem Tryz.sninfo9 : (prog.info? 9).map (fun i=>(i.zero,i.size,i.bytes))=some (some (.string ByteArray.empty),1,16):=by kernel_rfl
def tyc (t:Ty):List Value:=[.string ⟨t.1.toArray⟩,.int .i64 t.2.1,.bool t.2.2]
def zR (T:List Ty):List Value:=T.flatMap tyc
theorem zqO (a b:List Ty):zR (a++b)=zR a++zR b:=by simp [zR]
theorem zhT:∀ (T:List Ty) (i:Nat) (h:i<T.length),(zR T)[i*3]?=some (.string ⟨T[i].1.toArray⟩)/\(zR T)[i*3+1]?=some (.int .i64 T[i].2.1)/\(zR T)[i*3+2]?=some (.bool T[i].2.2):=by
 intro T
 induction T with
 | nil=>intro i h;simp at h
 | cons t T ih =>
  intro i h
  have e:zR (t :: T)=.string ⟨t.1.toArray⟩ :: .int .i64 t.2.1 :: .bool t.2.2 :: zR T:=rfl
  exact zqH
theorem zBG (h:w.ownsRow B 69 3 v T.length (zR T)):zL w v T:=by
 rcases h.2 with ⟨rfl,h0⟩ | ⟨g,cap,cur,rfl,_,hg,_⟩
 ·exact ⟨none,0,by rw [h0],fun i hi=>by omega⟩
 refine ⟨_,cap,rfl,fun i hi=>⟨g,0,rfl,(Array.getElem?_eq_some_iff.1 hg).1,?_⟩⟩
 obtain ⟨h1,h2,h3⟩:=zhT T i hi
 rw [Nat.zero_add]
 exact ⟨(h.cellAt _ Om).trans h1,(h.cellAt _ Om).trans h2,(h.cellAt _ Om).trans h3⟩
def lH (T:List Ty):Nat:=if zcc (T.map Prod.fst)≠0 then 13 else if (T.all fun t=>zbp t.2.1)=false then 1 else if zeO (T.map Prod.fst)=true then 9 else 0
theorem zqP {α:Type} (T:List (Bs × α)):(T.any fun t => !tyL t.1)=decide (zcc (T.map Prod.fst)≠0):=by
 unfold zcc
 by_cases h:(T.map Prod.fst).all tyL=true
 ·rw [if_pos h]
  rw [List.all_map,List.all_eq_true] at h
  simp only [ne_eq,not_true_eq_false,decide_false]
  rw [List.any_eq_false]
  intro x hx
  have:=h x hx
  simpa using this
 rw [if_neg h]
 simp only [ne_eq,Nat.reduceEqDiff,not_false_eq_true,decide_true]
 rw [List.any_eq_true]
 rw [List.all_map] at h
 obtain ⟨x,hx,hq⟩:=List.all_eq_false.1 ((Bool.not_eq_true _).mp h)
 exact ⟨x,hx,by simpa using hq⟩
theorem zBH (T:List Ty):(T.any fun t => !zbp t.2.1) = !(T.all fun t=>zbp t.2.1):=by
 rw [List.not_all_eq_any_not]
theorem zqQ {α:Type} (T:List (Bs × α)):zeO (T.map Prod.fst) = !decide ((T.map (fun t=>za t.1)).Nodup):=by
 unfold zeO;rw [List.map_map];rfl
theorem zBI (T:List Ty):(T.map il).map (·.1)=T.map (fun t=>za t.1):=by rw [List.map_map];rfl
theorem zfX (h:N.Nodup) (hs:ixL N s=none):(N++[s]).Nodup:=by
 rw [List.nodup_append]
 refine ⟨h,by simp,fun a ha b hb e=>?_⟩
 rw [List.mem_singleton] at hb
 subst hb e
 exact zfH hs ha
theorem ze5 {k:Nat} (hk:k<N.length) (hs:N[k]=s) {i:Nat} (hi:ixL (N.take k) s=some i):¬ N.Nodup:=by
 intro h
 obtain ⟨hl,he⟩:=zdg hi
 have kG:i<k:=by have:=hl;simp at this;omega
 have:=(List.pairwise_iff_getElem.1 h) i k Om hk kG
 rw [List.getElem_take] at he
 exact this (he.trans hs.symm)
def zqR (T:List Ty) (g:Nat) (w:World) (en:Ending) (w':World):Prop :=
 en=.returned (.int .i64 (lH T:Nat))/\Chg (fun k=>k=g) w w'/\(lH T=0->∃ mv a n c,w'.heap[g]?=some (.cells #[mv,.slice a n c,.map none,.slice none 0 0] 102 (0,0))/\zab w' mv ((T.map il).map (·.1))/\zL w' (.slice a n c) (T.map il)/\∀ j o,a=some ⟨j,o,none⟩->w.heap.size<=j)
theorem zdM (h:w.ownsRow B e size v n xs) (hm:zab w (.map (some b)) N):∀ j,v.ownBlock=some j->j≠b:=by
 intro j hj
 rcases h.2 with ⟨rfl,_⟩ | ⟨g,cap,cur,rfl,_,hg,_⟩
 ·cases hj
 injection hj with hj
 have hj:g=j:=hj
 subst hj
 exact fun e=>zee hm hg e.symm
theorem zkz (h:lH T=n) (hn:n≠0) (hc:Chg (fun k=>k=g) w w'):zqR T g w (.returned (.int .i64 (n:Nat))) w':=by
 subst h;exact ⟨rfl,hc,fun h=>absurd h hn⟩
theorem zBJ (T:List Ty) (tv:Value) (g:Nat) (w0 w:World) (h:zL w0 tv T) (aE:Below w0.heap.size w0 w) (bZ:w0.heap.size<=g) (hl:T.length<=1024) (jy:∀ t∈T,t.1.length<=140737488355328)
  (hg:w.heap[g]?=some (.cells #[.map none,.slice none 0 0,.map none,.slice none 0 0] 102 (0,0))) :
  Calls prog 44 #[.pointer (some ⟨g,0,none⟩),tv] w (zqR T g w):=by
 have hA:=zbc h aE
 have cu:=Hy (zBB T tv w hA Om)
 have gM:=Hy (fun w1 (hb:Below w.heap.size w w1)=>zBD T tv w1 (zbc hA hb) Om)
 rw [zqP] at cu
 rw [zBH] at gM
 clear hA
 obtain ⟨a,c,rfl,ae⟩:=h
 have HM:=Hy ae
 have gm:=Hy aE
 have v7:=Hy jy
 have HG:=Hy hg
 have fP:=zi hg
 have E8:=aE.size
 obtain ⟨n,hn⟩:=Ex T.length
 have HL:=Hy hn
 obtain ⟨F,hF⟩:=Ex (lH T)
 have fW:=hF
 unfold lH at fW
 by_cases h1:zcc (T.map Prod.fst)≠0
 ·rw [if_pos h1] at fW
  rw [decide_eq_true h1] at cu
  have HF:=Hy (hF.trans fW.symm)
  clear ae aE jy hg hn hF fW h1
  go_enter func44,ntmps44
  go_wp2_with fail
  refine cu.o.mono ?_
  rintro en w1 ⟨rfl,hb⟩
  have HB:=Hy hb
  clear hb
  go_wp2
  go_ret
  exact zkz HF.o De (Chg.ofBelow HB.o)
 rw [if_neg h1] at fW
 rw [decide_eq_false h1] at cu
 by_cases h2:(T.all fun t=>zbp t.2.1)=false
 ·rw [if_pos h2] at fW
  rw [h2] at gM
  have HF:=Hy (hF.trans fW.symm)
  clear ae aE jy hg hn hF fW h1 h2
  go_enter func44,ntmps44
  go_wp2_with fail
  refine cu.o.mono ?_
  rintro en w1 ⟨rfl,hb⟩
  have HB:=Hy hb
  clear hb
  go_wp2_with fail
  refine (gM.o _ HB.o).mono ?_
  rintro en w2 ⟨rfl,hb⟩
  have bw:=Hy (HB.o.trans (hb.mono HB.o.size))
  clear hb
  go_wp2
  go_ret
  exact zkz HF.o De (Chg.ofBelow bw.o)
 rw [if_neg h2] at fW
 rw [(Bool.not_eq_false _).mp h2] at gM
 rw [zqQ] at fW
 obtain ⟨TL,iP⟩:=Ex (T.map il)
 have jl:TL.length=n:=by rw [<- iP];simpa using hn
 have Dx:T.map (fun t=>za t.1)=TL.map (·.1):=by rw [<- iP,zBI]
 rw [Dx] at fW
 have HD:=Hy (show ¬ (TL.map (·.1)).Nodup->F=9 by intro h;rw [<- fW,decide_eq_false h];rfl)
 have HO:=Hy (show (TL.map (·.1)).Nodup->F=0 by intro h;rw [<- fW,decide_eq_true h];rfl)
 have Dy:=Hy hF
 have mV:=Hy iP
 have kZ:=Hy jl
 rw [hn] at hl cu gM ⊢
 clear ae aE jy hg hn hF fW h1 h2 iP jl Dx
 go_enter func44,ntmps44
 go_wp2_with fail
 refine cu.o.mono ?_
 rintro en w1 ⟨rfl,hb⟩
 have HB:=Hy hb
 clear hb
 go_wp2_with fail
 refine (gM.o _ HB.o).mono ?_
 rintro en w2 ⟨rfl,hb⟩
 have bw:=Hy (HB.o.trans (hb.mono HB.o.size))
 clear hb
 have l5:=bw.o.size
 go_wp2
 go_loopw [13] (fun v wr=>∃ (k:Nat) (mv rv:Value),k<=n/\v=.int .i64 (k:Nat)/\wr.heap[g]?=some (.cells #[mv,rv,.map none,.slice none 0 0] 102 (0,0))/\zab wr mv ((TL.take k).map (·.1))/\wr.ownsRow w.heap.size 69 3 rv k (zR (TL.take k)) /\
   (∀ b,mv=.map (some b)->w.heap.size<=b)/\((TL.take k).map (·.1)).Nodup/\Chg (fun k=>k=g) w wr) (fun v _=>n - (intOf v).toNat)
 case atStart=>exact ⟨0,.map none,.slice none 0 0,by omega,rfl,zj HG.o bw.o fP,zfV _,⟨rfl,.inl ⟨rfl,rfl⟩⟩,fun b h=>(by cases h),by simp,Chg.ofBelow bw.o⟩
 case round =>
  obtain ⟨k,mv,rv,hk,rfl,eB,aJ,aA,jm,bR,bj⟩:=hrel
  have cQ:=bj.size
  by_cases aj:k<n
  ·have bh:(k:Int)<(n:Int):=by omega
   have aO:k<T.length:=by rw [HL.o];exact aj
   have fy:Below w0.heap.size w0 wr:=gm.o.trans (bj.toBelow E8 (fun j _ h=>by rw [h];exact bZ))
   obtain ⟨g1,o1,rfl,bI,aU,aP,cI⟩:=HM.o k aO
   have e0:=(fy.cell (p:=⟨g1,_,none⟩) bI).trans aU
   have e1:=(fy.cell (p:=⟨g1,_,none⟩) bI).trans aP
   have e2:=(fy.cell (p:=⟨g1,_,none⟩) bI).trans cI
   have aY:=v7.o _ (List.getElem_mem aO)
   have lr:k<TL.length:=by rw [kZ.o];exact aj
   have lI:TL[k]=(za T[k].1,T[k].2):=by
    have:=mV.o
    subst this
    simp [il]
   obtain ⟨nm,pI⟩:=Ex (T[k].1)
   obtain ⟨rl,bP⟩:=Ex (T[k].2.1)
   obtain ⟨sg,fL⟩:=Ex (T[k].2.2)
   rw [pI] at e0 aY lI
   rw [bP] at e1
   rw [fL] at e2
   have cV:=Hy (fun w=>show Calls prog 72 #[.string ⟨nm.toArray⟩] w (zG (za nm) w) from zco ⟨nm.toArray⟩ w)
   have ig:(za nm).length<=140737488355328:=by simpa [za] using aY
   obtain ⟨LX,mt⟩:=Ex (za nm)
   rw [mt] at cV lI ig
   have vF:TL[k]=(LX,rl,sg):=by rw [lI,<- bP,<- fL]
   obtain ⟨ra,rc,rfl⟩:=zh aA
   have oe:TL.take (k+1)=TL.take k++[(LX,rl,sg)]:=by rw [List.take_succ_eq_append_getElem lr,vF]
   have HT:=Hy (An oe (An vF lr))
   have HI:=Hy (An eB (An aJ (An aA (An jm (An bR (An bj fy))))))
   have vG:=zi eB
   have JP:=Hy ig
   clear eB aJ aA jm bR bj fy aU aP cI pI bP fL mt aY lI vF oe ig
   go_wp2_with fail
   refine (cV.o _).mono ?_
   rintro en w5 ⟨rfl,ai⟩
   obtain ⟨y0,e6⟩:=zki ai
   have e8:=e6.size
   have gX:wr.heap.size<w5.heap.size:=zi y0
   obtain ⟨b0,b1,b2⟩:=ze y0
   have f0:=zc y0 0
   have gg:=zj HI.o.1 e6 vG
   have HY:=Hy (An y0 (An gg (An (zcf HI.o.2.1 e6) (An (zu HI.o.2.2.1 e6) e6))))
   clear y0 ai e6 gg e0 e1 e2
   go_wp2
   obtain ⟨W6,iY⟩:=Ex (w5.setCell ⟨wr.heap.size,0,none⟩ (.string ⟨LX.toArray⟩))
   have my:Chg (fun k=>k=wr.heap.size) w5 W6:=by rw [<- iY];exact (Chg.refl (fun k=>k=wr.heap.size) w5).setCell (p:=⟨wr.heap.size,0,none⟩) (fun _=>rfl) _
   have y1:W6.heap[wr.heap.size]?=some (.cells #[.string ⟨LX.toArray⟩,.int .i64 rl,.bool sg] 69 (0,0)):=by rw [<- iY];exact zH HY.o.1 0 _
   have gg:=zV HY.o.2.1 my (by show ¬ g=wr.heap.size;omega)
   have Dz:=zbJ HY.o.2.2.1 my (fun b hb=>by subst hb;exact zee HY.o.2.2.1 HY.o.1)
   have row6:=zz HY.o.2.2.2.1 my (fun j hj=>by have:=(HI.o.2.2.1.lt j hj).2;show ¬ j=wr.heap.size;omega)
   have DA:Chg (fun k=>k=g) w W6:=(HI.o.2.2.2.2.2.1.below (HY.o.2.2.2.2.mono cQ)).trans my (fun i hi h=>by omega)
   have fz:=my.size
   rw [iY]
   clear iY b0 b1 b2 f0
   obtain ⟨c0,c1,c2⟩:=ze y1
   have c0':W6.drew.cell? ⟨wr.heap.size,0,none⟩=_:=c0
   go_still_tail 5,Kr
   change wpList _ _ _ _ _ W6.drew
   have HZ:=Hy (An y1 (An gg (An Dz (An row6 (An DA fz)))))
   clear y1 gg Dz row6 DA fz c0 c1 c2 c0' my
   go_wp2_with fail
   refine (zhS g 0 #[mv,.slice ra k rc,.map none,.slice none 0 0] 102 mv ((TL.take k).map (·.1)) LX W6.drew HZ.o.2.1 rfl (zbJ (S:=fun _=>False) HZ.o.2.2.1 (Chg.refl _ W6).drew Fi) So JP.o).mono ?_
   rintro en w8 ⟨dh,di⟩
   have pU:=Hy (An dh di)
   clear dh di
   have JQ:=Hy (show ((TL.map (·.1))[k]'(by simpa using HT.o.2.2))=LX by simp [HT.o.2.1])
   cases hq:ixL ((TL.take k).map (·.1)) LX with
   | some i =>
    obtain ⟨rfl,rfl⟩:=pU.o.1 i hq
    have HQ:=Hy (HD.o (ze5 (by simpa using HT.o.2.2) JQ.o (by rw [<- List.map_take];exact hq)))
    clear hq
    go_wp2
    go_ret
    exact zkz (Dy.o.trans HQ.o) De HZ.o.2.2.2.2.1.drew
   | none =>
    obtain ⟨b,rfl,g8,qu,jm,iQ⟩:=pU.o.2 hq
    have mz:w8.heap[g]?=some (.cells #[.map (some b),.slice ra k rc,.map none,.slice none 0 0] 102 (0,0)):=g8
    have pJ:∀ j,mv=.map (some j)->j≠wr.heap.size:=fun j hj=>by have h3:=HZ.o.2.2.1;subst hj;exact zee h3 HZ.o.1
    have y8:=zV (w:=W6.drew) HZ.o.1 iQ (by rintro (h | h) <;> first | omega | exact pJ _ h rfl)
    have row8:=zz (w:=W6.drew) (zaZ HZ.o.2.2.2.1 rfl) iQ (fun j hj=>by
     rintro (h | h)
     ·have:=(HI.o.2.2.1.lt j hj).1;omega
     have h3:=HZ.o.2.2.1
     subst h
     exact zdM HZ.o.2.2.2.1 h3 j hj rfl)
    have vH:Chg (fun k=>k=g) w w8:=HZ.o.2.2.2.2.1.drew.trans iQ (fun i hi h=>by
     rcases h with h | h
     ·exact h
     have:=HI.o.2.2.2.1 _ h;omega)
    have jX:w.heap.size<=b:=by
     rcases jm with h | ⟨_,h⟩
     ·exact HI.o.2.2.2.1 _ h
     have h4:=HZ.o.2.2.2.2.2
     have h5:W6.heap.size<=b:=h
     omega
    have DB:=zfX HI.o.2.2.2.2.1 hq
    have lP:=iQ.size
    have qB:W6.heap.size<=w8.heap.size:=lP
    have vI:w.heap.size<=w8.heap.size:=vH.size
    have mQ:g<w8.heap.size:=zi mz
    obtain ⟨d0,d1,d2⟩:=ze y8
    have p1:=(zc0 mz).2.1
    have H8:=Hy (An mz (An qu (An row8 (An vH (An jX DB)))))
    have o7:wr.heap.size<w8.heap.size:=zi y8
    have qW:=Hy (show ∀ j,(Value.slice ra k rc).ownBlock=some j->j≠g from fun j hj=>by have:=(row8.lt j hj).1;omega)
    clear g8 mz qu jm iQ pJ y8 row8 vH jX DB hq lP
    go_wp2
    go_region_law (refine zqN rfl (.tmp 32) (.tmp 34) 28 69 rfl w.heap.size 3 32 _ Tryz.sninfo69 underlying28 rfl (by decide) w8.drew [_,_,_] rfl rfl (by intro u hu;simp at hu;rcases hu with rfl | rfl | rfl <;> rfl) (.slice ra k rc) k (zR (TL.take k)) rfl _ rfl rfl (zaZ H8.o.2.2.1 rfl) (by unfold maxLen;omega) (by omega) vI ?_;intro v' w' h1 h2 h3;obtain ⟨na,nc,rfl⟩:=zh h1;have g9:=zV (w:=w8.drew) H8.o.1 h2 (fun e=>qW.o _ e.symm rfl);have q1:=zc g9 1;have q2:=(zc0 g9).2.1)
    all_goals
     have qF:=h2.size
     have nw:w8.heap.size<=w'.heap.size:=qF
     have DD:=zH g9 1 (.slice na (k+1) nc)
     have ch10:Chg (fun j=>j=g) w (w'.setCell ⟨g,1,none⟩ (.slice na (k+1) nc)):=(H8.o.2.2.2.1.drew.trans h2 (fun i hi h=>by have:=(H8.o.2.2.1.lt i h.symm).1;omega)).setCell (p:=⟨g,1,none⟩) (fun _=>rfl) _
     have chS:Chg (fun j=>j=g) w' (w'.setCell ⟨g,1,none⟩ (.slice na (k+1) nc)):=(Chg.refl (fun j=>j=g) w').setCell (p:=⟨g,1,none⟩) (fun _=>rfl) _
     have pK:=zbJ (zbJ (w:=w8.drew) (zbJ (S:=fun _=>False) H8.o.2.1 (Chg.refl _ w8).drew Fi) h2 (fun j hj e=>by injection hj with hj;injection hj with hj;exact zdM H8.o.2.2.1 H8.o.2.1 j e.symm hj.symm)) chS (fun j hj e=>by injection hj with hj;injection hj with hj;have e':j=g:=e;have:=H8.o.2.2.2.2.1;omega)
     have row10:=zz h1 chS (fun j hj e=>by have:=(h1.lt j hj).1;omega)
     have HE:=Hy (An DD (An pK (An row10 ch10)))
     clear g9 q1 q2 h1 h2 h3 qF nw DD ch10 chS pK row10
     go_wp2
     refine ⟨⟨k+1,.map (some b),.slice na (k+1) nc,by omega,by go_num,HE.o.1,?_,?_,fun j hj=>by injection hj with hj;injection hj with hj;rw [<- hj];exact H8.o.2.2.2.2.1,?_,HE.o.2.2.2⟩,by simp [intOf];omega⟩
     ·rw [HT.o.1,List.map_append];exact HE.o.2.1
     ·rw [HT.o.1,zqO];exact HE.o.2.2.1
     rw [HT.o.1,List.map_append];exact H8.o.2.2.2.2.2
  obtain rfl:k=n:=by omega
  have DE:TL.take k=TL:=List.take_of_length_le (by rw [kZ.o];exact Nat.le_refl _)
  rw [DE] at aJ aA bR
  obtain ⟨ra,rc,rfl⟩:=zh aA
  have H:=Hy (An eB (An aJ (An aA (An (HO.o bR) bj))))
  clear eB aJ aA bR bj DE jm
  go_wp2
  go_ret
  have e0:lH T=0:=Dy.o.trans H.o.2.2.2.1
  refine ⟨by rw [e0];rfl,H.o.2.2.2.2,fun _=>⟨mv,ra,k,rc,H.o.1,by rw [mV.o];exact H.o.2.1,?_,fun j o e=>(H.o.2.2.1.lt j (by rw [e];rfl)).1⟩⟩
  rw [mV.o]
  have hr:=H.o.2.2.1
  have hk:=kZ.o
  subst hk
  exact zBG hr
def LwS (l:List (Bs)) (w:World) (en:Ending) (w':World):Prop :=
 ∃ g c,en=.returned (.slice (some ⟨g,0,none⟩) l.length c)/\w'.ownsRow w.heap.size 9 1 (.slice (some ⟨g,0,none⟩) l.length c) l.length (sc l)/\Below w.heap.size w w'/\w.heap.size<=g
theorem zqS (ms:List (Bs)) (v:Value) (w:World) (hl:ms.length<=1000000) (hm:TxR w v ms) :
  Calls prog 76 #[v] w (LwS (ms.map za) w):=by
 obtain ⟨a,c,rfl,ae⟩:=hm
 have HM:=Hy ae
 obtain ⟨L,hL⟩:=Ex (ms.map za)
 have ig:L.length=ms.length:=by rw [<- hL];simp
 have HL:=Hy hL
 rw [hL]
 obtain ⟨n,hn⟩:=Ex ms.length
 have HN:=Hy hn
 rw [hn] at hl ig ⊢
 have NR:=Hy ig
 obtain ⟨i0,hi,bO,bi,ce⟩:=info_parts Tryz.sninfo9
 have HI:=Hy hi
 have HZ0:=Hy bO
 have HZ1:=Hy bi
 have HZ2:=Hy ce
 clear hi bO bi ce ae hL hn
 go_enter func76,ntmps76
 go_wp2_with (at_make;refine wpList_make_full _ rfl _ _ 47 rfl w.heap.size 9 i0 (.string ByteArray.empty) 1 underlying47 HI.o HZ0.o HZ1.o _ _ _ _ n rfl rfl ?e1 ?e2 ?b0 ?b1 ?b2 ?_)
 case e1=>rfl
 case e2=>rfl
 case b0=>rw [HZ2.o];omega
 case b1=>unfold maxLen;omega
 case b2=>exact Nat.le_refl _
 intro w3 fH fq
 have aK:Below w.heap.size w w3:=(Br _).grown fq Lr (fun k hk=>by cases hk)
 have e0:=zvY L
 rw [ig] at e0
 rw [<- e0] at fH
 have gO:w.heap.size<=w3.heap.size:=aK.size
 have HX:=Hy aK
 clear e0 fq aK
 go_wp2
 go_loopw [11] (fun v wr=>∃ i:Nat,i<=n/\v=.int .i64 (i:Nat)/\wr.ownsRow w.heap.size 9 1 (.slice (some ⟨w.heap.size,0,none⟩) n n) n (sc (zcY L i))/\Below w.heap.size w wr) (fun v _=>n - (intOf v).toNat)
 case atStart=>exact ⟨0,by omega,rfl,fH,HX.o⟩
 case round =>
  obtain ⟨i,hi,rfl,ab,hb⟩:=hrel
  have cQ:w.heap.size<=wr.heap.size:=hb.size
  by_cases aj:i<n
  ·have cW:(i:Int)<(n:Int):=by omega
   have JR:i<ms.length:=by rw [HN.o];exact aj
   obtain ⟨g,o,rfl,hg,aP⟩:=HM.o i JR
   have e1:=(hb.cell (p:=⟨g,o+i,none⟩) hg).trans aP
   have iS:i<L.length:=by rw [ig];exact aj
   have NS:L[i]=za ms[i]:=by
    have:=HL.o
    subst this
    simp
   have er:=zv0 L i iS
   have eH:=zv1 L i iS
   rw [NS] at er
   obtain ⟨m,ct⟩:=Ex (ms[i])
   rw [ct] at e1 er
   have cV:=Hy (fun w=>show Calls prog 72 #[.string ⟨m.toArray⟩] w (zG (za m) w) from zco ⟨m.toArray⟩ w)
   obtain ⟨LM,iL⟩:=Ex (za m)
   rw [iL] at cV er
   have H:=Hy (An ab (An hb (An er eH)))
   clear ab hb er eH NS ct iL aP
   go_wp2_with fail
   refine (cV.o _).mono ?_
   rintro e w5 ⟨rfl,ai⟩
   have lJ:=zu H.o.1 ai
   have c0:=(lJ.cellAt i Om).trans H.o.2.2.2
   have f0:=lJ.frozenAt i
   have H5:=Hy (An lJ (H.o.2.1.trans (ai.mono cQ)))
   clear lJ ai
   go_wp2
   refine ⟨⟨i+1,by omega,by go_num,?_,?_⟩,by simp [intOf];omega⟩
   ·have h7:=(H5.o.1.stored i (.string ⟨LM.toArray⟩)).1
    rw [H.o.2.2.1] at h7
    exact h7
   exact H5.o.2.setCell (p:=⟨w.heap.size,i,none⟩) Lr _
  obtain rfl:i=n:=by omega
  have H:=Hy (An ab hb)
  clear ab hb
  go_wp2
  go_ret
  have ho:=H.o.1
  rw [<- ig,zvZ] at ho
  exact ⟨w.heap.size,L.length,by rw [ig];rfl,ho,H.o.2,Nat.le_refl _⟩
def clc (c:Bs × Value × Value):List Value:=[.string ⟨c.1.toArray⟩,c.2.1,c.2.2]
def zaG (L:List (Bs × Value × Value)):List Value:=L.flatMap clc
theorem zqT (a b:List (Bs × Value × Value)):zaG (a++b)=zaG a++zaG b:=by simp [zaG]
theorem zhU:∀ (L:List (Bs × Value × Value)) (i:Nat) (h:i<L.length),(zaG L)[i*3]?=some (.string ⟨L[i].1.toArray⟩)/\(zaG L)[i*3+1]?=some L[i].2.1/\(zaG L)[i*3+2]?=some L[i].2.2:=by
 intro L
 induction L with
 | nil=>intro i h;simp at h
 | cons c L ih =>
  intro i h
  have e:zaG (c :: L)=.string ⟨c.1.toArray⟩ :: c.2.1 :: c.2.2 :: zaG L:=rfl
  exact zqH
def zdN (w:World) (j:Nat):Prop:=∃ cur,w.heap[j]?=some (.cells cur 9 (0,0))
theorem zbK (h:w.ownsRow B 9 1 v n xs):∀ j,v.ownBlock=some j->B<=j/\zdN w j:=by
 intro j hj
 rcases h.2 with ⟨rfl,_⟩ | ⟨g,cap,cur,rfl,hb,hg,_⟩
 ·cases hj
 injection hj with hj
 have hj:g=j:=hj
 subst hj
 exact ⟨hb,cur,hg⟩
def zfY (w:World) (B:Nat) (c:Cl) (q:Bs × Value × Value):Prop :=
 q.1=c.1/\∃ g1 c1 g2 c2,q.2.1=.slice (some ⟨g1,0,none⟩) c.2.1.length c1/\q.2.2=.slice (some ⟨g2,0,none⟩) c.2.2.length c2/\w.ownsRow B 9 1 q.2.1 c.2.1.length (sc c.2.1)/\w.ownsRow B 9 1 q.2.2 c.2.2.length (sc c.2.2)
theorem zBK (h:zfY w B c q) (hc:Chg S w w') (hs:∀ g,B<=g->zdN w g->¬ S g):zfY w' B c q:=by
 obtain ⟨h0,g1,c1,g2,c2,e1,e2,t1,t2⟩:=h
 exact ⟨h0,g1,c1,g2,c2,e1,e2,zz t1 hc (fun j hj=>hs j (zbK t1 j hj).1 (zbK t1 j hj).2),zz t2 hc (fun j hj=>hs j (zbK t2 j hj).1 (zbK t2 j hj).2)⟩
def zdk (w:World) (B:Nat) (C:List Cl) (L:List (Bs × Value × Value)):Prop:=L.length=C.length/\∀ i (h1:i<C.length) (h2:i<L.length),zfY w B C[i] L[i]
theorem zBL (w:World) (B:Nat):zdk w B [] []:=⟨rfl,fun i h=>by simp at h⟩
theorem ze6 (h:zdk w B C L) (hc:Chg S w w') (hs:∀ g,B<=g->zdN w g->¬ S g):zdk w' B C L :=
 ⟨h.1,fun i h1 h2=>zBK (h.2 i h1 h2) hc hs⟩
theorem zBM (h:zdk w B C L) (h1:zfY w B c q):zdk w B (C++[c]) (L++[q]):=by
 refine ⟨by simp [h.1],fun i i1 i2=>?_⟩
 by_cases hi:i<C.length
 ·rw [List.getElem_append_left hi,List.getElem_append_left (by rw [h.1];exact hi)]
  exact h.2 i hi _
 have:i=C.length:=by simp at i1;omega
 subst this
 have e:L.length=C.length:=h.1
 simp only [List.getElem_append_right (Nat.le_refl C.length),Nat.sub_self,List.getElem_cons_zero]
 rw [List.getElem_append_right Om]
 simp [e,h1]
theorem zBN (h:w.ownsRow B 72 3 v C.length (zaG L)) (hc:zdk w B C L):zai w v C:=by
 rcases h.2 with ⟨rfl,h0⟩ | ⟨g,cap,cur,rfl,_,hg,_⟩
 ·exact ⟨none,0,by rw [h0],fun i hi=>by omega⟩
 refine ⟨_,cap,rfl,fun i hi=>?_⟩
 have hl:i<L.length:=by rw [hc.1];exact hi
 obtain ⟨h0,g1,c1,g2,c2,e1,e2,t1,t2⟩:=hc.2 i hi hl
 obtain ⟨a1,a2,a3⟩:=zhU L i hl
 refine ⟨g,0,L[i].2.1,L[i].2.2,rfl,(Array.getElem?_eq_some_iff.1 hg).1,?_⟩
 rw [Nat.zero_add]
 exact ⟨(h.cellAt _ Om).trans (by rw [a1,h0]),(h.cellAt _ Om).trans a2,(h.cellAt _ Om).trans a3,zaL t1,zaL t2,.inr ⟨_,_,_,e1⟩,.inr ⟨_,_,_,e2⟩⟩
theorem zBO {j:Nat} (hm:zab w (.map (some b)) N) (h:zdN w j):j≠b:=by
 obtain ⟨cur,h⟩:=h
 exact fun e=>zee hm h e.symm
theorem zBP (hr:w.ownsRow B 72 size v n xs) {j:Nat} (h:zdN w j):v.ownBlock≠some j:=by
 intro hj
 obtain ⟨cur,h⟩:=h
 rcases hr.2 with ⟨rfl,_⟩ | ⟨g,cap,cur',rfl,hb,hg,_⟩
 ·cases hj
 injection hj with hj
 have hj:g=j:=hj
 subst hj
 rw [h] at hg
 cases hg
def zct (C:List Cl):Nat:=if zcc (C.map Prod.fst)≠0 then 13 else if zeO (C.map Prod.fst)=true then 9 else 0
theorem zBQ (T:List Cl):(T.map zaU).map (·.1)=T.map (fun t=>za t.1):=by rw [List.map_map];rfl
def zqU (C:List Cl) (g:Nat) (m1 v1:Value) (w:World) (en:Ending) (w':World):Prop :=
 en=.returned (.int .i64 (zct C:Nat))/\Chg (fun k=>k=g) w w'/\(zct C=0->∃ mv a n c,w'.heap[g]?=some (.cells #[m1,v1,mv,.slice a n c] 102 (0,0))/\zab w' mv ((C.map zaU).map (·.1))/\zai w' (.slice a n c) (C.map zaU))
theorem zqV {m1 v1:Value} (h:zct C=n) (hn:n≠0) (hc:Chg (fun k=>k=g) w w'):zqU C g m1 v1 w (.returned (.int .i64 (n:Nat))) w':=by
 subst h;exact ⟨rfl,hc,fun h=>absurd h hn⟩
def zqW (LX:Bs) (MA MB:List (Bs)) (wr wx:World):Prop :=
 ∃ gA cA gB cB,wx.heap[wr.heap.size]?=some (.cells #[.string ⟨LX.toArray⟩,.slice (some ⟨gA,0,none⟩) MA.length cA,.slice (some ⟨gB,0,none⟩) MB.length cB] 72 (0,0))/\Below wr.heap.size wr wx /\
  wx.ownsRow wr.heap.size 9 1 (.slice (some ⟨gA,0,none⟩) MA.length cA) MA.length (sc MA)/\wx.ownsRow wr.heap.size 9 1 (.slice (some ⟨gB,0,none⟩) MB.length cB) MB.length (sc MB)
theorem zqX (g:Nat) (w:World) (a b c:Value):Chg (fun k=>k=g) w (((w.setCell ⟨g,0,none⟩ a).setCell ⟨g,1,none⟩ b).setCell ⟨g,2,none⟩ c) :=
 (((Chg.refl (fun k=>k=g) w).setCell (p:=⟨g,0,none⟩) (fun _=>rfl) _).setCell (p:=⟨g,1,none⟩) (fun _=>rfl) _).setCell (p:=⟨g,2,none⟩) (fun _=>rfl) _
theorem zBR {LX:Bs} {MA MB:List (Bs)} {wr W0 w5 w6 w7:World} {a b c:Value} {gA cA gB cB:Nat} (pL:Below wr.heap.size wr W0) (z0:wr.heap.size<W0.heap.size) (y0:W0.heap[wr.heap.size]?=some (.cells #[a,b,c] 72 (0,0)))
  (ax:Below W0.heap.size W0 w7) (h5:W0.heap.size<=w5.heap.size) (h6:W0.heap.size<=w6.heap.size)
  (rA:w7.ownsRow w5.heap.size 9 1 (.slice (some ⟨gA,0,none⟩) MA.length cA) MA.length (sc MA)) (rB:w7.ownsRow w6.heap.size 9 1 (.slice (some ⟨gB,0,none⟩) MB.length cB) MB.length (sc MB)) :
  zqW LX MA MB wr (((w7.setCell ⟨wr.heap.size,0,none⟩ (.string ⟨LX.toArray⟩)).setCell ⟨wr.heap.size,1,none⟩ (.slice (some ⟨gA,0,none⟩) MA.length cA)).setCell ⟨wr.heap.size,2,none⟩ (.slice (some ⟨gB,0,none⟩) MB.length cB)):=by
 have y7:=zj y0 ax z0
 refine ⟨gA,cA,gB,cB,zbR y7 _ _ _,zbV (pL.trans (ax.mono (Nat.le_of_lt z0))) Lr _ _ _,?_,?_⟩
 ·refine zz (zaK rA Om) (zqX _ _ _ _ _) (fun j hj=>?_)
  have:=(rA.lt j hj).1
  show ¬ j=_
  omega
 refine zz (zaK rB Om) (zqX _ _ _ _ _) (fun j hj=>?_)
 have:=(rB.lt j hj).1
 show ¬ j=_
 omega
theorem zBS (T:List Cl) (tv:Value) (g:Nat) (m1 v1:Value) (w0 w:World) (h:zai w0 tv T) (aE:Below w0.heap.size w0 w) (bZ:w0.heap.size<=g) (hl:T.length<=1024) (jy:∀ t∈T,t.1.length<=140737488355328)
  (cT:∀ t∈T,t.2.1.length<=1000000/\t.2.2.length<=1000000)
  (hg:w.heap[g]?=some (.cells #[m1,v1,.map none,.slice none 0 0] 102 (0,0))) :
  Calls prog 45 #[.pointer (some ⟨g,2,none⟩),tv] w (zqU T g m1 v1 w):=by
 have hA:=zed h aE
 have cu:=Hy (zBF T tv w hA Om)
 rw [zqP] at cu
 clear hA
 obtain ⟨a,c,rfl,ae⟩:=h
 have HM:=Hy ae
 have gm:=Hy aE
 have v7:=Hy jy
 have Je:=Hy cT
 have HG:=Hy hg
 have fP:=zi hg
 have E8:=aE.size
 obtain ⟨n,hn⟩:=Ex T.length
 have HL:=Hy hn
 obtain ⟨F,hF⟩:=Ex (zct T)
 have fW:=hF
 unfold zct at fW
 by_cases h1:zcc (T.map Prod.fst)≠0
 ·rw [if_pos h1] at fW
  rw [decide_eq_true h1] at cu
  have HF:=Hy (hF.trans fW.symm)
  clear ae aE jy hg hn hF fW h1 cT
  go_enter func45,ntmps45
  go_wp2_with fail
  refine cu.o.mono ?_
  rintro en w1 ⟨rfl,hb⟩
  have HB:=Hy hb
  clear hb
  go_wp2
  go_ret
  exact zqV HF.o De (Chg.ofBelow HB.o)
 rw [if_neg h1] at fW
 rw [decide_eq_false h1] at cu
 rw [zqQ] at fW
 obtain ⟨TL,iP⟩:=Ex (T.map zaU)
 have jl:TL.length=n:=by rw [<- iP];simpa using hn
 have Dx:T.map (fun t=>za t.1)=TL.map (·.1):=by rw [<- iP,zBQ]
 rw [Dx] at fW
 have HD:=Hy (show ¬ (TL.map (·.1)).Nodup->F=9 by intro h;rw [<- fW,decide_eq_false h];rfl)
 have HO:=Hy (show (TL.map (·.1)).Nodup->F=0 by intro h;rw [<- fW,decide_eq_true h];rfl)
 have Dy:=Hy hF
 have mV:=Hy iP
 have kZ:=Hy jl
 rw [hn] at hl cu ⊢
 clear ae aE jy hg hn hF fW h1 iP jl Dx cT
 go_enter func45,ntmps45
 go_wp2_with fail
 refine cu.o.mono ?_
 rintro en w2 ⟨rfl,hb⟩
 have bw:=Hy hb
 clear hb
 have l5:=bw.o.size
 go_wp2
 go_loopw [11] (fun v wr=>∃ (k:Nat) (mv rv:Value) (L:List (Bs × Value × Value)),k<=n/\v=.int .i64 (k:Nat)/\wr.heap[g]?=some (.cells #[m1,v1,mv,rv] 102 (0,0))/\zab wr mv ((TL.take k).map (·.1))/\wr.ownsRow w.heap.size 72 3 rv k (zaG L) /\
   zdk wr w.heap.size (TL.take k) L/\(∀ b,mv=.map (some b)->w.heap.size<=b)/\((TL.take k).map (·.1)).Nodup/\Chg (fun k=>k=g) w wr) (fun v _=>n - (intOf v).toNat)
 case atStart=>exact ⟨0,.map none,.slice none 0 0,[],by omega,rfl,zj HG.o bw.o fP,zfV _,⟨rfl,.inl ⟨rfl,rfl⟩⟩,zBL _ _,fun b h=>(by cases h),by simp,Chg.ofBelow bw.o⟩
 case round =>
  obtain ⟨k,mv,rv,L,hk,rfl,eB,aJ,aA,af,jm,bR,bj⟩:=hrel
  have cQ:=bj.size
  by_cases aj:k<n
  ·have bh:(k:Int)<(n:Int):=by omega
   have aO:k<T.length:=by rw [HL.o];exact aj
   have fy:Below w0.heap.size w0 wr:=gm.o.trans (bj.toBelow E8 (fun j _ h=>by rw [h];exact bZ))
   obtain ⟨g1,o1,mu,ma,rfl,bI,aU,aP,cI,tmu,tma,smu,sma⟩:=HM.o k aO
   obtain ⟨a1,n1,c1,rfl⟩:=zdL smu
   obtain ⟨a2,n2,c2,rfl⟩:=zdL sma
   have e0:=(fy.cell (p:=⟨g1,_,none⟩) bI).trans aU
   have e1:=(fy.cell (p:=⟨g1,_,none⟩) bI).trans aP
   have e2:=(fy.cell (p:=⟨g1,_,none⟩) bI).trans cI
   have aY:=v7.o _ (List.getElem_mem aO)
   have kg:=Je.o _ (List.getElem_mem aO)
   have lr:k<TL.length:=by rw [kZ.o];exact aj
   have lI:TL[k]=(za T[k].1,T[k].2.1.map za,T[k].2.2.map za):=by
    have:=mV.o
    subst this
    simp [zaU]
   obtain ⟨nm,pI⟩:=Ex (T[k].1)
   obtain ⟨MU,sW⟩:=Ex (T[k].2.1)
   obtain ⟨MA,sX⟩:=Ex (T[k].2.2)
   rw [pI] at e0 aY lI
   rw [sW] at tmu kg lI
   rw [sX] at tma kg lI
   have cV:=Hy (fun w=>show Calls prog 72 #[.string ⟨nm.toArray⟩] w (zG (za nm) w) from zco ⟨nm.toArray⟩ w)
   have ig:(za nm).length<=140737488355328:=by simpa [za] using aY
   have NT:=Hy (fun w' (hb:Below wr.heap.size wr w')=>zqS MU (.slice a1 n1 c1) w' kg.1 (zA (zA tmu fy) hb))
   have NU:=Hy (fun w' (hb:Below wr.heap.size wr w')=>zqS MA (.slice a2 n2 c2) w' kg.2 (zA (zA tma fy) hb))
   obtain ⟨LX,mt⟩:=Ex (za nm)
   obtain ⟨LU,NV⟩:=Ex (MU.map za)
   obtain ⟨LA,rU⟩:=Ex (MA.map za)
   rw [mt] at cV lI ig
   rw [NV] at NT lI
   rw [rU] at NU lI
   obtain ⟨ra,rc,rfl⟩:=zh aA
   have oe:TL.take (k+1)=TL.take k++[(LX,LU,LA)]:=by rw [List.take_succ_eq_append_getElem lr,lI]
   have HT:=Hy (An oe (An lI lr))
   have HI:=Hy (An eB (An aJ (An aA (An jm (An bR (An bj (An fy af)))))))
   have vG:=zi eB
   have JP:=Hy ig
   clear eB aJ aA jm bR bj fy aU aP cI pI aY lI oe ig sW sX mt NV rU kg tmu tma smu sma af
   go_upto_region 6 with (fail)
   clear e0 e1 e2
   go_cut [6,11] from 11 to 42 (fun s6 s11 wx=>s6=.pointer (some ⟨wr.heap.size,0,none⟩)/\s11=.int .i64 (k:Nat)/\zqW LX LU LA wr wx)
   case first =>
    obtain ⟨W0,aN⟩:=Ex (wr.alloc (.cells #[.string ⟨nm.toArray⟩,.slice a1 n1 c1,.slice a2 n2 c2] 72))
    have y0:=Nw aN
    have pL:=Nb aN
    rw [aN]
    clear aN
    have z0:wr.heap.size<W0.heap.size:=zi y0
    obtain ⟨d0,d1,d2⟩:=ze y0
    have k0:=zc y0 0
    have k1:=zc y0 1
    have k2:=zc y0 2
    have e0:W0.drew.cell? ⟨wr.heap.size,0,none⟩=_:=d0
    have e1:W0.drew.cell? ⟨wr.heap.size,1,none⟩=_:=d1
    have e2:W0.drew.cell? ⟨wr.heap.size,2,none⟩=_:=d2
    have HY:=Hy y0
    clear y0
    go_region_law (first
     | (go_simp;go_at_call 72;(with_reducible refine (cV.o _).mono ?_);rintro en w5 ⟨rfl,ai⟩;have ax:Below W0.heap.size W0 w5:=(by first | exact ax.trans (ai.mono ax.size) | exact (Br W0).drew.trans ai);have e0:=(ax.cell (p:=⟨wr.heap.size,0,none⟩) z0).trans d0;have e1:=(ax.cell (p:=⟨wr.heap.size,1,none⟩) z0).trans d1;have e2:=(ax.cell (p:=⟨wr.heap.size,2,none⟩) z0).trans d2;have f0:=(ax.frozen (p:=⟨wr.heap.size,0,none⟩) z0).trans k0;have f1:=(ax.frozen (p:=⟨wr.heap.size,1,none⟩) z0).trans k1;have f2:=(ax.frozen (p:=⟨wr.heap.size,2,none⟩) z0).trans k2)
     | (go_simp;go_at_call 76;(with_reducible refine (NT.o _ (pL.trans (ax.mono (Nat.le_of_lt z0)))).mono ?_);rintro en w6 ⟨gA,cA,rfl,rA,az,gA0⟩;have ax:=ax.trans (az.mono ax.size);have e0:=(ax.cell (p:=⟨wr.heap.size,0,none⟩) z0).trans d0;have e1:=(ax.cell (p:=⟨wr.heap.size,1,none⟩) z0).trans d1;have e2:=(ax.cell (p:=⟨wr.heap.size,2,none⟩) z0).trans d2;have f0:=(ax.frozen (p:=⟨wr.heap.size,0,none⟩) z0).trans k0;have f1:=(ax.frozen (p:=⟨wr.heap.size,1,none⟩) z0).trans k1;have f2:=(ax.frozen (p:=⟨wr.heap.size,2,none⟩) z0).trans k2)
     | (go_simp;go_at_call 76;(with_reducible refine (NU.o _ (pL.trans (ax.mono (Nat.le_of_lt z0)))).mono ?_);rintro en w7 ⟨gB,cB,rfl,rB,aR,gB0⟩;have ax:=ax.trans (aR.mono ax.size);have rA:=zu rA aR;have e0:=(ax.cell (p:=⟨wr.heap.size,0,none⟩) z0).trans d0;have e1:=(ax.cell (p:=⟨wr.heap.size,1,none⟩) z0).trans d1;have e2:=(ax.cell (p:=⟨wr.heap.size,2,none⟩) z0).trans d2;have f0:=(ax.frozen (p:=⟨wr.heap.size,0,none⟩) z0).trans k0;have f1:=(ax.frozen (p:=⟨wr.heap.size,1,none⟩) z0).trans k1;have f2:=(ax.frozen (p:=⟨wr.heap.size,2,none⟩) z0).trans k2))
    all_goals
     have e8:W0.heap.size<=w5.heap.size:=ai.size
     have fz:W0.heap.size<=w6.heap.size:=Nat.le_trans e8 az.size
     have HR:=Hy (zBR (LX:=LX) (MA:=LU) (MB:=LA) pL z0 HY.o ax e8 fz rA rB)
     clear ax rA rB
     go_wp2_with fail
     go_meet
     exact ⟨rfl,rfl,HR.o⟩
   case rest =>
    obtain ⟨rfl,rfl,hR⟩:=hcut
    obtain ⟨gA,cA,gB,cB,y1,e6,rA,rB⟩:=hR
    have gg:=zj HI.o.1 e6 vG
    have Dz:=zcf HI.o.2.1 e6
    have row6:=zu HI.o.2.2.1 e6
    have DA:Chg (fun k=>k=g) w wc:=HI.o.2.2.2.2.2.1.below (e6.mono cQ)
    have all6:zdk wc w.heap.size (TL.take k) L:=ze6 HI.o.2.2.2.2.2.2.2 (Chg.ofBelow (S:=fun _=>False) e6) Fh
    have fz:=e6.size
    obtain ⟨c0,c1',c2'⟩:=ze y1
    have c0':wc.drew.cell? ⟨wr.heap.size,0,none⟩=_:=c0
    have hyl0:wr.heap.size<wc.heap.size:=zi y1
    have HZ:=Hy (An y1 (An gg (An Dz (An row6 (An DA (An fz (An all6 (An (zaK rA cQ) (zaK rB cQ)))))))))
    clear y1 gg Dz row6 DA all6 rA rB e6
    go_wp2
    go_still_tail 5,Kr
    change wpList _ _ _ _ _ wc.drew
    clear c0 c1' c2' c0'
    go_wp2_with fail
    refine (zhS g 2 #[m1,v1,mv,.slice ra k rc] 102 mv ((TL.take k).map (·.1)) LX wc.drew HZ.o.2.1 rfl (zbJ (S:=fun _=>False) HZ.o.2.2.1 (Chg.refl _ wc).drew Fi) So JP.o).mono ?_
    rintro en w8 ⟨dh,di⟩
    have pU:=Hy (An dh di)
    clear dh di
    have JQ:=Hy (show ((TL.map (·.1))[k]'(by simpa using HT.o.2.2))=LX by simp [HT.o.2.1])
    cases hq:ixL ((TL.take k).map (·.1)) LX with
    | some i =>
     obtain ⟨rfl,rfl⟩:=pU.o.1 i hq
     have HQ:=Hy (HD.o (ze5 (by simpa using HT.o.2.2) JQ.o (by rw [<- List.map_take];exact hq)))
     clear hq
     go_wp2
     go_ret
     exact zqV (Dy.o.trans HQ.o) De HZ.o.2.2.2.2.1.drew
    | none =>
     obtain ⟨b,rfl,g8,qu,jm,iQ⟩:=pU.o.2 hq
     have mz:w8.heap[g]?=some (.cells #[m1,v1,.map (some b),.slice ra k rc] 102 (0,0)):=g8
     have pJ:∀ j,mv=.map (some j)->j≠wr.heap.size:=fun j hj=>by have h3:=HZ.o.2.2.1;subst hj;exact zee h3 HZ.o.1
     have Ff:∀ j,w.heap.size<=j->zdN wc.drew j->¬ (fun k=>k=g\/mv=.map (some k)) j:=fun j hj hs=>by
      rintro (h | h)
      ·omega
      have h3:=HZ.o.2.2.1
      subst h
      exact zBO h3 hs rfl
     have y8:=zV (w:=wc.drew) HZ.o.1 iQ (by
      rintro (h | h)
      ·omega
      exact pJ _ h rfl)
     have row8:=zz (w:=wc.drew) (zaZ HZ.o.2.2.2.1 rfl) iQ (fun j hj=>by
      rintro (h | h)
      ·have:=(HI.o.2.2.1.lt j hj).1;omega
      have h3:=HZ.o.2.2.1
      subst h
      exact zdM HZ.o.2.2.2.1 h3 j hj rfl)
     have all8:zdk w8 w.heap.size (TL.take k) L:=ze6 (w:=wc.drew) (ze6 HZ.o.2.2.2.2.2.2.1 ((Chg.refl (fun _=>False) wc).drew) Fh) iQ Ff
     have NW:=zz (w:=wc.drew) (zaZ HZ.o.2.2.2.2.2.2.2.1 rfl) iQ (fun j hj=>Ff j (zbK HZ.o.2.2.2.2.2.2.2.1 j hj).1 (zbK HZ.o.2.2.2.2.2.2.2.1 j hj).2)
     have NX:=zz (w:=wc.drew) (zaZ HZ.o.2.2.2.2.2.2.2.2 rfl) iQ (fun j hj=>Ff j (zbK HZ.o.2.2.2.2.2.2.2.2 j hj).1 (zbK HZ.o.2.2.2.2.2.2.2.2 j hj).2)
     have vH:Chg (fun k=>k=g) w w8:=HZ.o.2.2.2.2.1.drew.trans iQ (fun i hi h=>by
      rcases h with h | h
      ·exact h
      have:=HI.o.2.2.2.1 _ h;omega)
     have jX:w.heap.size<=b:=by
      rcases jm with h | ⟨_,h⟩
      ·exact HI.o.2.2.2.1 _ h
      have h5:wc.heap.size<=b:=h
      omega
     have DB:=zfX HI.o.2.2.2.2.1 hq
     have lP:=iQ.size
     have qB:wc.heap.size<=w8.heap.size:=lP
     have vI:w.heap.size<=w8.heap.size:=vH.size
     have mQ:g<w8.heap.size:=zi mz
     obtain ⟨d0,d1,d2⟩:=ze y8
     have p1:=(zc0 mz).2.2.2
     have o7:wr.heap.size<w8.heap.size:=zi y8
     have qW:=Hy (show ∀ j,(Value.slice ra k rc).ownBlock=some j->j≠g from fun j hj=>by have:=(row8.lt j hj).1;omega)
     have H8:=Hy (An mz (An qu (An row8 (An vH (An jX (An DB (An all8 (An NW NX))))))))
     clear g8 mz qu jm iQ pJ y8 row8 vH jX DB hq lP all8 NW NX Ff
     go_wp2
     go_region_law (refine zqN rfl (.tmp 36) (.tmp 38) 29 72 rfl w.heap.size 3 64 _ Tryz.sninfo72 underlying29 rfl (by decide) w8.drew [_,_,_] rfl rfl (by intro u hu;simp at hu;rcases hu with rfl | rfl | rfl <;> rfl) (.slice ra k rc) k (zaG L) rfl _ rfl rfl (zaZ H8.o.2.2.1 rfl) (by unfold maxLen;omega) (by omega) vI ?_;intro v' w' h1 h2 h3;obtain ⟨na,nc,rfl⟩:=zh h1;have g9:=zV (w:=w8.drew) H8.o.1 h2 (fun e=>qW.o _ e.symm rfl);have q1:=zc g9 3;have q2:=(zc0 g9).2.2.2)
     all_goals
      have qF:=h2.size
      have nw:w8.heap.size<=w'.heap.size:=qF
      have DD:=zH g9 3 (.slice na (k+1) nc)
      have ch10:Chg (fun j=>j=g) w (w'.setCell ⟨g,3,none⟩ (.slice na (k+1) nc)):=(H8.o.2.2.2.1.drew.trans h2 (fun i hi h=>by have:=(H8.o.2.2.1.lt i h.symm).1;omega)).setCell (p:=⟨g,3,none⟩) (fun _=>rfl) _
      have chS:Chg (fun j=>j=g) w' (w'.setCell ⟨g,3,none⟩ (.slice na (k+1) nc)):=(Chg.refl (fun j=>j=g) w').setCell (p:=⟨g,3,none⟩) (fun _=>rfl) _
      have pK:=zbJ (zbJ (w:=w8.drew) (zbJ (S:=fun _=>False) H8.o.2.1 (Chg.refl _ w8).drew Fi) h2 (fun j hj e=>by injection hj with hj;injection hj with hj;exact zdM H8.o.2.2.1 H8.o.2.1 j e.symm hj.symm)) chS (fun j hj e=>by injection hj with hj;injection hj with hj;have e':j=g:=e;have:=H8.o.2.2.2.2.1;omega)
      have row10:=zz h1 chS (fun j hj e=>by have:=(h1.lt j hj).1;omega)
      have gb:∀ j,w.heap.size<=j->zdN w8.drew j->¬ (fun k_1=>some k_1=(Value.slice ra k rc).ownBlock) j:=fun j _ hs e=>zBP H8.o.2.2.1 hs e.symm
      have je:∀ j,w.heap.size<=j->zdN w' j->¬ (fun k_1=>k_1=g) j:=fun j hj _ e=>by have e':j=g:=e;omega
      have all10:=ze6 (ze6 (w:=w8.drew) (ze6 H8.o.2.2.2.2.2.2.1 ((Chg.refl (fun _=>False) w8).drew) Fh) h2 gb) chS je
      have Fg:=zz (w:=w8.drew) (zaZ H8.o.2.2.2.2.2.2.2.1 rfl) h2 (fun j hj=>gb j (zbK H8.o.2.2.2.2.2.2.2.1 j hj).1 (zbK H8.o.2.2.2.2.2.2.2.1 j hj).2)
      have Fj:=zz (w:=w8.drew) (zaZ H8.o.2.2.2.2.2.2.2.2 rfl) h2 (fun j hj=>gb j (zbK H8.o.2.2.2.2.2.2.2.2 j hj).1 (zbK H8.o.2.2.2.2.2.2.2.2 j hj).2)
      have DF:=zz Fg chS (fun j hj=>je j (zbK Fg j hj).1 (zbK Fg j hj).2)
      have DG:=zz Fj chS (fun j hj=>je j (zbK Fj j hj).1 (zbK Fj j hj).2)
      have all11:=zBM all10 (show zfY _ w.heap.size (LX,LU,LA) (LX,.slice (some ⟨gA,0,none⟩) LU.length cA,.slice (some ⟨gB,0,none⟩) LA.length cB) from ⟨rfl,gA,cA,gB,cB,rfl,rfl,DF,DG⟩)
      have HE:=Hy (An DD (An pK (An row10 (An ch10 all11))))
      clear g9 q1 q2 h1 h2 h3 qF nw DD ch10 chS pK row10 gb je all10 Fg Fj DF DG all11
      go_wp2
      refine ⟨⟨k+1,.map (some b),.slice na (k+1) nc,L++[(LX,.slice (some ⟨gA,0,none⟩) LU.length cA,.slice (some ⟨gB,0,none⟩) LA.length cB)],by omega,by go_num,HE.o.1,?_,?_,?_,fun j hj=>by injection hj with hj;injection hj with hj;rw [<- hj];exact H8.o.2.2.2.2.1,?_,HE.o.2.2.2.1⟩,by simp [intOf];omega⟩
      ·rw [HT.o.1,List.map_append];exact HE.o.2.1
      ·rw [zqT];exact HE.o.2.2.1
      ·rw [HT.o.1];exact HE.o.2.2.2.2
      rw [HT.o.1,List.map_append];exact H8.o.2.2.2.2.2.1
  obtain rfl:k=n:=by omega
  have DE:TL.take k=TL:=List.take_of_length_le (by rw [kZ.o];exact Nat.le_refl _)
  rw [DE] at aJ bR af
  obtain ⟨ra,rc,rfl⟩:=zh aA
  have H:=Hy (An eB (An aJ (An aA (An (HO.o bR) (An bj af)))))
  clear eB aJ aA bR bj DE jm af
  go_wp2
  go_ret
  have e0:zct T=0:=Dy.o.trans H.o.2.2.2.1
  refine ⟨by rw [e0];rfl,H.o.2.2.2.2.1,fun _=>⟨mv,ra,k,rc,H.o.1,by rw [mV.o];exact H.o.2.1,?_⟩⟩
  rw [mV.o]
  have hr:=H.o.2.2.1
  have hk:=kZ.o
  subst hk
  exact zBN hr H.o.2.2.2.2.2
def ic (w:World) (g:Nat) (T:List Ty) (C:List Cl):Prop :=
 ∃ m1 a1 n1 c1 m2 a2 n2 c2,w.heap[g]?=some (.cells #[m1,.slice a1 n1 c1,m2,.slice a2 n2 c2] 102 (0,0))/\zab w m1 (T.map (·.1))/\zL w (.slice a1 n1 c1) T/\zab w m2 (C.map (·.1))/\zai w (.slice a2 n2 c2) C
theorem zby (h:ic w g T C) (hb:Below w.heap.size w w'):ic w' g T C:=by
 obtain ⟨m1,a1,n1,c1,m2,a2,n2,c2,h1,h2,h3,h4,h5⟩:=h
 exact ⟨m1,a1,n1,c1,m2,a2,n2,c2,Ob h1 hb,zcf h2 hb,zbc h3 hb,zcf h4 hb,zed h5 hb⟩
theorem zkA (h:ic w g T C):g<w.heap.size:=by
 obtain ⟨m1,a1,n1,c1,m2,a2,n2,c2,h1,_⟩:=h
 exact zi h1
theorem zBT (i:Nat):plV (some i)=.tuple #[.int .i64 (i:Nat),.bool true]:=rfl
theorem zBU:plV none=.tuple #[.int .i64 0,.bool false]:=rfl
theorem zqY (s:Bs) (b g:Nat) (T:List Ty) (C:List Cl) (w:World) (hb:w.cell? ⟨b,0,none⟩=some (.pointer (some ⟨g,0,none⟩))) (h:ic w g T C) (hs:s.length<=140737488355328) :
  Calls prog 77 #[.string ⟨s.toArray⟩,.pointer (some ⟨b,0,none⟩)] w (za1 (!inL (T.map (·.1)) s) w):=by
 obtain ⟨m1,a1,n1,c1,m2,a2,n2,c2,h1,h2,_⟩:=h
 have HP:=Hy (zhR g 0 m1 (T.map (·.1)) s w (zc0 h1).1 h2 hs)
 cases hq:ixL (T.map (·.1)) s with
 | none =>
  rw [hq] at HP
  have H:=Hy (zjQ hq)
  clear h1 h2 hq
  go_enter func77,ntmps77
  go_wp2_with fail
  refine HP.o.mono ?_
  rintro en w1 ⟨rfl,rfl⟩
  rw [zBU]
  go_wp2
  go_ret
  exact zag (by rw [H.o];rfl)
 | some i =>
  rw [hq] at HP
  have H:=Hy (zjP hq)
  clear h1 h2 hq
  go_enter func77,ntmps77
  go_wp2_with fail
  refine HP.o.mono ?_
  rintro en w1 ⟨rfl,rfl⟩
  rw [zBT]
  go_wp2
  go_ret
  exact zag (by rw [H.o];rfl)
def IxP (b:Bool) (w:World) (en:Ending) (w':World):Prop:=∃ n:Int,en=.returned (.int .i64 n)/\decide (0<=n)=b/\w=w'
theorem zBV (l:List (Bs)) (v:Value) (b g:Nat) (T:List Ty) (C:List Cl) (w:World) (hl:l.length<=1000000) (ht:TxR w v l) (hb:w.cell? ⟨b,0,none⟩=some (.pointer (some ⟨g,0,none⟩))) (h:ic w g T C) (hs:∀ s∈l,s.length<=140737488355328) :
  Calls prog 117 #[v,.func (.func 77) #[] #[.pointer (some ⟨b,0,none⟩)]] w (IxP (l.any fun s => !inL (T.map (·.1)) s) w):=by
 have HC:=Hy (fun s (hs:s.length<=140737488355328)=>zqY s b g T C w hb h hs)
 obtain ⟨N,hN⟩:=Ex (T.map (·.1))
 rw [hN] at HC ⊢
 obtain ⟨a,c,rfl,ae⟩:=ht
 have HM:=Hy ae
 have HS:=Hy hs
 obtain ⟨n,hn⟩:=Ex l.length
 have HL:=Hy hn
 have HY:=Hy (zdJ (l:=l) (q:=fun s => !inL N s))
 have HN:=Hy (zdK (l:=l) (q:=fun s => !inL N s))
 obtain ⟨R,hR⟩:=Ex (l.any fun s => !inL N s)
 rw [hR] at HY HN ⊢
 rw [hn] at hl ⊢
 clear ae hn hR hs hb h hN
 go_enter func117,ntmps117
 go_wp2
 go_loop [8] (fun v=>∃ k:Nat,k<=n/\v=.int .i64 (k:Nat)/\∀ j (hj:j<l.length),j<k->(!inL N l[j])=false) (fun v=>n - (intOf v).toNat)
 case atStart=>exact ⟨0,by omega,rfl,fun j _ h=>by omega⟩
 case round =>
  obtain ⟨k,hk,rfl,af⟩:=hrel
  by_cases aj:k<n
  ·have bh:(k:Int)<(n:Int):=by omega
   have aO:k<l.length:=by rw [HL.o];exact aj
   obtain ⟨g1,o1,rfl,bI,e0⟩:=HM.o k aO
   have HF:=Hy (HC.o _ (HS.o _ (List.getElem_mem aO)))
   obtain ⟨bq,aX⟩:=Ex (!inL N l[k])
   have jt:=Hy (fun hx=>HY.o k aO (by rw [aX];exact hx))
   have HA:=Hy (fun (hx:bq=false) j (hj:j<l.length) (fB:j<k+1)=>(show (!inL N l[j])=false by
    by_cases ji:j=k
    ·subst ji;rw [aX];exact hx
    exact af j hj Om))
   rw [aX] at HF
   obtain ⟨s,dO⟩:=Ex (l[k])
   rw [dO] at e0 HF
   clear af aX dO
   go_wp2_with fail
   refine HF.o.mono ?_
   rintro en w5 ⟨rfl,hw⟩
   obtain rfl:=hw.symm
   cases bq
   ·have H:=Hy (HA.o rfl)
    go_wp2
    exact ⟨⟨k+1,by omega,by go_num,H.o⟩,by simp [intOf];omega⟩
   have H:=Hy (jt.o rfl)
   go_wp2
   go_ret
   exact ⟨_,rfl,by rw [H.o];simp,rfl⟩
  obtain rfl:k=n:=by omega
  have H:=Hy (HN.o (fun j hj=>af j hj (by rw [<- HL.o];exact hj)))
  clear af
  go_wp2
  go_ret
  exact ⟨_,rfl,by rw [H.o];rfl,rfl⟩
theorem zBW (l:List (Bs)) (v:Value) (b g:Nat) (T:List Ty) (C:List Cl) (w:World) (hl:l.length<=1000000) (ht:TxR w v l) (hb:w.cell? ⟨b,0,none⟩=some (.pointer (some ⟨g,0,none⟩))) (h:ic w g T C) (hs:∀ s∈l,s.length<=140737488355328) :
  Calls prog 79 #[v,.func (.func 77) #[] #[.pointer (some ⟨b,0,none⟩)]] w (za1 (l.any fun s => !inL (T.map (·.1)) s) w):=by
 have HC:=Hy (zBV l v b g T C w hl ht hb h hs)
 obtain ⟨R,hR⟩:=Ex (l.any fun s => !inL (T.map (·.1)) s)
 obtain ⟨a,c,rfl,_⟩:=ht
 rw [hR] at HC ⊢
 clear hR hb h hs
 go_enter func79,ntmps79
 go_wp2_with fail
 refine HC.o.mono ?_
 rintro en w1 ⟨n,rfl,hn,rfl⟩
 have H:=Hy hn
 clear hn
 go_wp2
 go_ret
 exact zag H.o.symm
def zM:Bs:=[111,98,106,101,99,116,99,108,97,115,115]
def zdl (N:List (Bs)) (c:Cl):Bool:=(c.2.1.any fun s => !inL N s) || (c.2.2.any fun s => !inL N s)
def zhV (N:List (Bs)) (C:List Cl):Bool := !(C.any (zdl N)) && inL N zM
theorem zBX (g:Nat) (T:List Ty) (C:List Cl) (w:World) (h:ic w g T C) (hl:C.length<=1000000) (cT:∀ c∈C,c.2.1.length<=1000000/\c.2.2.length<=1000000) (hs:∀ c∈C,(∀ s∈c.2.1,s.length<=140737488355328)/\∀ s∈c.2.2,s.length<=140737488355328) :
  Calls prog 46 #[.pointer (some ⟨g,0,none⟩)] w (BB (zhV (T.map (·.1)) C) w):=by
 have HS:=Hy h
 obtain ⟨m1,a1,n1,c1,m2,a2,n2,c2,h1,h2,h3,h4,h5⟩:=id h
 obtain ⟨a,c,hv,ae⟩:=h5
 injection hv with dl f7 ep
 subst dl f7 ep
 have HM:=Hy ae
 have ru:=Hy cT
 have rt:=Hy hs
 obtain ⟨n,hn⟩:=Ex C.length
 have HL:=Hy hn
 rw [hn] at hl h1
 have p3:=(zc0 h1).2.2.2
 have bZ:=zi h1
 obtain ⟨W0,aN⟩:=Ex (w.alloc (.cells #[.pointer (some ⟨g,0,none⟩)] 26))
 have aE:=Nb aN
 have x0:=Nw aN
 have q3:W0.cell? ⟨g,3,none⟩=some (.slice a2 n c2):=(aE.cell (p:=⟨g,3,none⟩) bZ).trans p3
 have q0:=zq x0 0 _ rfl
 have gD:=Hy aN
 have HX:=Hy (An x0 aE)
 have vh:=aE.size
 obtain ⟨N,hN⟩:=Ex (T.map (·.1))
 have HY:=Hy (zdJ (l:=C) (q:=zdl N))
 have HN:=Hy (zdK (l:=C) (q:=zdl N))
 have HR:=Hy (show zhV N C=(!(C.any (zdl N)) && inL N zM) from rfl)
 obtain ⟨R,hR⟩:=Ex (C.any (zdl N))
 rw [hR] at HY HN HR
 have xI:=Hy (fun wr (hb:Below w.heap.size w wr) (hx:wr.cell? ⟨w.heap.size,0,none⟩=some (.pointer (some ⟨g,0,none⟩))) l v (hl:l.length<=1000000) (ht:TxR wr v l) (hs:∀ s∈l,s.length<=140737488355328)=>zBW l v w.heap.size g T C wr hl ht hx (zby h hb) hs)
 have NY:=Hy (fun wr (hb:Below w.heap.size w wr) (hx:wr.cell? ⟨w.heap.size,0,none⟩=some (.pointer (some ⟨g,0,none⟩)))=>zqY zM w.heap.size g T C wr hx (zby h hb) De)
 rw [hN] at xI NY ⊢
 have bO:w.heap.size<W0.heap.size:=zi x0
 clear ae h cT hs h1 h2 h3 h4 hn hN aN x0 aE hR
 go_enter func46,ntmps46
 go_wp2
 rw [gD.o]
 clear q0 q3 p3
 go_loopw [13] (fun v wr=>∃ k:Nat,k<=n/\v=.int .i64 (k:Nat)/\Below W0.heap.size W0 wr/\∀ j (hj:j<C.length),j<k->zdl N C[j]=false) (fun v _=>n - (intOf v).toNat)
 case atStart=>exact ⟨0,by omega,rfl,Br _,fun j _ h=>by omega⟩
 case round =>
  obtain ⟨k,hk,rfl,hb,af⟩:=hrel
  have cQ:=hb.size
  have aq:Below w.heap.size w wr:=HX.o.2.trans (hb.mono vh)
  by_cases aj:k<n
  ·have bh:(k:Int)<(n:Int):=by omega
   have aO:k<C.length:=by rw [HL.o];exact aj
   obtain ⟨g1,o1,mu,ma,rfl,bI,aU,aP,cI,tmu,tma,smu,sma⟩:=HM.o k aO
   have e0:=(aq.cell (p:=⟨g1,_,none⟩) bI).trans aU
   have e1:=(aq.cell (p:=⟨g1,_,none⟩) bI).trans aP
   have e2:=(aq.cell (p:=⟨g1,_,none⟩) bI).trans cI
   have cZ:=ru.o _ (List.getElem_mem aO)
   have dO:=rt.o _ (List.getElem_mem aO)
   obtain ⟨bq,aX⟩:=Ex (zdl N C[k])
   have jt:=Hy (fun hx=>HY.o k aO (by rw [aX];exact hx))
   have HA:=Hy (fun (hx:bq=false) j (hj:j<C.length) (fB:j<k+1)=>(show zdl N C[j]=false by
    by_cases ji:j=k
    ·subst ji;rw [aX];exact hx
    exact af j hj Om))
   have gK:=aX
   unfold zdl at gK
   obtain ⟨nm,aJ⟩:=Ex (C[k].1)
   obtain ⟨MU,sW⟩:=Ex (C[k].2.1)
   obtain ⟨MA,sX⟩:=Ex (C[k].2.2)
   rw [aJ] at e0
   rw [sW] at tmu cZ dO gK
   rw [sX] at tma cZ dO gK
   obtain ⟨a3,n3,c3,rfl⟩:=zdL smu
   obtain ⟨a4,n4,c4,rfl⟩:=zdL sma
   obtain ⟨W1,aB⟩:=Ex (wr.alloc (.cells #[.string ⟨nm.toArray⟩,.slice a3 n3 c3,.slice a4 n4 c4] 72))
   have au:=Nb aB
   have fx:Below w.heap.size w W1:=aq.trans (au.mono aq.size)
   have d7:W1.cell? ⟨w.heap.size,0,none⟩=some (.pointer (some ⟨g,0,none⟩)):=(au.cell (p:=⟨w.heap.size,0,none⟩) (by show w.heap.size<_;omega)).trans ((hb.cell (p:=⟨w.heap.size,0,none⟩) bO).trans (zq HX.o.1 0 _ rfl))
   have HU:=Hy (xI.o W1 fx d7 MU _ cZ.1 (zA tmu fx) dO.1)
   have BY:=Hy (xI.o W1 fx d7 MA _ cZ.2 (zA tma fx) dO.2)
   obtain ⟨bu,NZ⟩:=Ex (MU.any fun s => !inL N s)
   obtain ⟨ba,uA⟩:=Ex (MA.any fun s => !inL N s)
   rw [NZ] at HU gK
   rw [uA] at BY gK
   have br:=Hy aB
   have y1:=Nw aB
   obtain ⟨i0,i1,i2⟩:=ze y1
   have HB:=Hy (An (hb.trans (au.mono cQ)) fx)
   clear af aX hb aq au fx d7 aU aP cI aJ sW sX NZ uA cZ dO tmu tma smu sma aB y1
   go_wp2_with fail
   rw [br.o]
   refine HU.o.mono ?_
   rintro en w5 ⟨rfl,hw⟩
   obtain rfl:=hw.symm
   cases bu
   ·go_wp2_with fail
    refine BY.o.mono ?_
    rintro en w5 ⟨rfl,hw⟩
    obtain rfl:=hw.symm
    cases ba
    ·have H:=Hy (HA.o gK.symm)
     clear gK i0 i1 i2 e0 e1 e2
     go_wp2
     exact ⟨⟨k+1,by omega,by go_num,HB.o.1,H.o⟩,by simp [intOf];omega⟩
    have H:=Hy (jt.o gK.symm)
    clear gK
    go_wp2
    go_ret
    exact zB (by rw [HR.o,H.o];rfl) HB.o.2
   have H:=Hy (jt.o (by rw [<- gK];rfl))
   clear gK
   go_wp2
   go_ret
   exact zB (by rw [HR.o,H.o];rfl) HB.o.2
  obtain rfl:k=n:=by omega
  have H:=Hy (HN.o (fun j hj=>af j hj (by rw [<- HL.o];exact hj)))
  have d7:wr.cell? ⟨w.heap.size,0,none⟩=some (.pointer (some ⟨g,0,none⟩)):=(hb.cell (p:=⟨w.heap.size,0,none⟩) bO).trans (zq HX.o.1 0 _ rfl)
  have HO:=Hy (NY.o wr aq d7)
  have HB:=Hy aq
  obtain ⟨bo,sm⟩:=Ex (inL N zM)
  rw [sm] at HO HR
  clear hb af aq d7 sm
  go_wp2_with fail
  refine HO.o.mono ?_
  rintro en w5 ⟨rfl,hw⟩
  obtain rfl:=hw.symm
  go_wp2
  go_ret
  exact zB (by rw [HR.o,H.o];simp) HB.o
def zef (T:List Ty) (C:List Cl):Nat :=
 if 1024<T.length\/1024<C.length then 3 else if zg7 T C≠0 then zg7 T C else if zhV ((T.map il).map (·.1)) (C.map zaU)=true then 0 else 8
theorem zBY (T:List Ty) (C:List Cl):zg7 T C=if lH T≠0 then lH T else zct C:=by
 have h:∀ l,zcc l=0\/zcc l=13:=fun l=>by unfold zcc;split;exact .inl rfl;exact .inr rfl
 unfold zg7 lH zct
 rcases h (T.map Prod.fst) with h1 | h1 <;> rcases h (C.map Prod.fst) with h2 | h2 <;> simp only [h1,h2] <;> simp <;> (repeat' split) <;> simp_all
def zqZ (T:List Ty) (C:List Cl) (w:World) (en:Ending) (w':World):Prop :=
 (zef T C≠0->en=.returned (.tuple #[.pointer none,.int .i64 (zef T C:Nat)])) /\
 (zef T C=0->∃ g,en=.returned (.tuple #[.pointer (some ⟨g,0,none⟩),.int .i64 0])/\ic w' g (T.map il) (C.map zaU))/\Below w.heap.size w w'
theorem zhW (h:zef T C=n) (hn:n≠0) (hb:Below w.heap.size w w'):zqZ T C w (.returned (.tuple #[.pointer none,.int .i64 (n:Nat)])) w':=by
 subst h;exact ⟨fun _=>rfl,fun h=>absurd h hn,hb⟩
theorem zBZ (T:List Ty):lH T=0\/lH T=13\/lH T=1\/lH T=9:=by
 unfold lH;repeat' split
 all_goals simp
theorem zB0 (C:List Cl):zct C=0\/zct C=13\/zct C=9:=by
 unfold zct;repeat' split
 all_goals simp
theorem zkB (h:zL w v T) (hc:Chg S w w') (hs:∀ g o n c,v=.slice (some ⟨g,o,none⟩) n c->¬ S g):zL w' v T:=by
 obtain ⟨a,c,rfl,h⟩:=h
 refine ⟨a,c,rfl,fun i hi=>?_⟩
 obtain ⟨g,o,rfl,h2,h3,h4,h5⟩:=h i hi
 have hb:¬ S g:=hs g o _ _ rfl
 have eJ:=hc.block g h2 hb
 exact ⟨g,o,rfl,Nat.lt_of_lt_of_le h2 hc.size,(World.cell?_of_block (w:=w) (a:=⟨g,_,none⟩) eJ).trans h3,(World.cell?_of_block (w:=w) (a:=⟨g,_,none⟩) eJ).trans h4,(World.cell?_of_block (w:=w) (a:=⟨g,_,none⟩) eJ).trans h5⟩
theorem zB1 (T:List Ty) (C:List Cl) (tv cv:Value) (w:World) (h:zL w tv T) (h2:zai w cv C) (jy:∀ t∈T,t.1.length<=140737488355328) (sr:∀ t∈C,t.1.length<=140737488355328)
  (cT:∀ c∈C,c.2.1.length<=1000000/\c.2.2.length<=1000000) (hs:∀ c∈C,(∀ s∈c.2.1,s.length<=140737488355328)/\∀ s∈c.2.2,s.length<=140737488355328) :
  Calls prog 22 #[tv,cv] w (zqZ T C w):=by
 obtain ⟨S,hS⟩:=Ex (zef T C)
 have gU:=hS
 unfold zef at gU
 obtain ⟨ta,tc,rfl,pH⟩:=id h
 obtain ⟨ca,cc,rfl,wL⟩:=id h2
 by_cases hT:1024<T.length
 ·rw [if_pos (.inl hT)] at gU
  have H:=Hy (hS.trans gU.symm)
  have N0:(1024:Int)<(T.length:Int):=by omega
  exact zqI
 have N0:(T.length:Int)<=1024:=by omega
 by_cases hC:1024<C.length
 ·rw [if_pos (.inr hC)] at gU
  have H:=Hy (hS.trans gU.symm)
  have N3:(1024:Int)<(C.length:Int):=by omega
  exact zqI
 have N3:(C.length:Int)<=1024:=by omega
 rw [if_neg Om,zBY] at gU
 obtain ⟨W0,aN⟩:=Ex (w.alloc (.cells #[.map none,.slice none 0 0,.map none,.slice none 0 0] 102))
 have aE:=Nb aN
 have x0:=Nw aN
 have HF:=Hy (zBJ T _ w.heap.size w W0 h aE Lr Om jy x0)
 have N4:=Hy (fun m1 v1 W1 (hb:Below w.heap.size w W1) hx=>zBS C _ w.heap.size m1 v1 w W1 h2 hb Lr Om sr cT hx)
 have HHT:=Hy (fun W2 (hx:ic W2 w.heap.size (T.map il) (C.map zaU))=>zBX w.heap.size (T.map il) (C.map zaU) W2 hx So
  (fun c hc=>by obtain ⟨u,hu,rfl⟩:=List.mem_map.1 hc;simpa [zaU] using cT u hu)
  (fun c hc=>by
   obtain ⟨u,hu,rfl⟩:=List.mem_map.1 hc
   refine ⟨fun s oy=>?_,fun s oy=>?_⟩
   ·obtain ⟨v,hv,rfl⟩:=List.mem_map.1 oy;simpa [za] using (hs u hu).1 v hv
   obtain ⟨v,hv,rfl⟩:=List.mem_map.1 oy;simpa [za] using (hs u hu).2 v hv))
 have gD:=Hy aN
 have gm:=Hy aE
 have HS:=Hy gU
 have Fk:=Hy hS
 obtain ⟨nT,qw⟩:=Ex T.length
 obtain ⟨nC,xJ⟩:=Ex C.length
 have bO:w.heap.size<W0.heap.size:=zi x0
 rw [qw] at N0 HF ⊢
 rw [xJ] at N3 N4 ⊢
 clear h h2 hS gU pH wL hT hC aN aE x0 qw xJ jy sr cT hs
 go_enter func22,ntmps22
 go_wp2_with fail
 rw [gD.o]
 refine HF.o.mono ?_
 rintro en W1 ⟨rfl,bj,aS⟩
 have HO:=Hy (An bj aS)
 have fx:Below w.heap.size w W1:=gm.o.trans (bj.toBelow gm.o.size (fun k _ hk=>by have hk:k=w.heap.size:=hk;omega))
 have cr:=Hy fx
 have bi:=bj.size
 clear bj aS fx
 rcases zBZ T with hv | hv | hv | hv
 ·rw [hv] at HO HS ⊢
  obtain ⟨mv,a1,n1,c1,x1,N5,N7,wd⟩:=HO.o.2 rfl
  have JS:=Hy (N4.o mv (.slice a1 n1 c1) W1 cr.o x1)
  have HY:=Hy (An N5 (An N7 (An x1 wd)))
  have hgl1:=zi x1
  clear x1 N5 N7 hv wd
  go_wp2_with fail
  refine JS.o.mono ?_
  rintro en W2 ⟨rfl,bj,aS⟩
  have gP:=Hy (An bj aS)
  have DH:Below w.heap.size w W2:=cr.o.trans (bj.toBelow cr.o.size (fun k _ hk=>by have hk:k=w.heap.size:=hk;omega))
  have bw:=Hy DH
  have ce:=bj.size
  clear bj aS DH
  rcases zB0 C with hv | hv | hv
  ·rw [hv] at gP HS ⊢
   obtain ⟨mv2,a2,n2,c2,x2,xz,N9⟩:=gP.o.2 rfl
   have bk:ic W2 w.heap.size (T.map il) (C.map zaU):=⟨mv,a1,n1,c1,mv2,a2,n2,c2,x2,zbJ HY.o.1 gP.o.1 (fun b hb e=>by subst hb;exact zee HY.o.1 HY.o.2.2.1 e),
    zkB HY.o.2.1 gP.o.1 (fun j o n c hj e=>by injection hj with hj;have:=HY.o.2.2.2 j o hj;have e':j=w.heap.size:=e;omega),xz,N9⟩
   have vJ:=Hy bk
   have HH:=Hy (HHT.o W2 bk)
   obtain ⟨r,hr⟩:=Ex (zhV ((T.map il).map (·.1)) (C.map zaU))
   rw [hr] at HH HS
   clear x2 xz N9 bk hv hr
   go_wp2_with fail
   refine HH.o.mono ?_
   rintro en W3 ⟨rfl,aK⟩
   have cx:=Hy (bw.o.trans (aK.mono bw.o.size))
   have ez:=Hy (zby vJ.o aK)
   clear aK
   cases r
   ·have H:=Hy (Fk.o.trans HS.o.symm)
    go_wp2
    go_ret2
    exact zhW H.o De cx.o
   have H:=Hy (Fk.o.trans HS.o.symm)
   go_wp2
   go_ret2
   exact ⟨fun h=>absurd H.o h,fun _=>⟨_,rfl,ez.o⟩,cx.o⟩
  all_goals
   rw [hv] at HS ⊢
   have H:=Hy (Fk.o.trans HS.o.symm)
   clear hv
   go_wp2
   go_ret2
   exact zhW H.o De bw.o
 all_goals
  rw [hv] at HS ⊢
  have H:=Hy (Fk.o.trans HS.o.symm)
  clear hv
  go_wp2
  go_ret2
  exact zhW H.o De cr.o
def plT:List Ty:=[([99,110],1,false),([115,110],1,false),([111,117],1,false),([100,99],1,false),([111],1,false),([100,101,115,99,114,105,112,116,105,111,110],1,false),([109,97,105,108],1,false),([111,98,106,101,99,116,99,108,97,115,115],1,false),([117,115,101,114,112,97,115,115,119,111,114,100],4,true),([117,105,100],1,true),([117,105,100,110,117,109,98,101,114],3,true),([109,101,109,98,101,114],5,false),([115,101,114,105,97,108,110,117,109,98,101,114],2,false)]
def plC:List Cl:=[([116,111,112],[],[]),([112,101,114,115,111,110],[[99,110],[115,110]],[[100,101,115,99,114,105,112,116,105,111,110],[117,115,101,114,112,97,115,115,119,111,114,100],[109,97,105,108],[117,105,100],[117,105,100,110,117,109,98,101,114],[115,101,114,105,97,108,110,117,109,98,101,114],[109,101,109,98,101,114]]),([111,114,103,97,110,105,122,97,116,105,111,110,97,108,117,110,105,116],[[111,117]],[[100,101,115,99,114,105,112,116,105,111,110],[109,101,109,98,101,114]]),([100,111,109,97,105,110],[[100,99]],[[100,101,115,99,114,105,112,116,105,111,110],[111]]),([103,114,111,117,112],[[99,110]],[[109,101,109,98,101,114],[100,101,115,99,114,105,112,116,105,111,110]])]
theorem zq0:plT.map il=plT:=by decide +kernel
theorem zq1:plC.map zaU=plC:=by decide +kernel
theorem zB2:zef plT plC=0:=by decide +kernel
theorem zq2 (w:World) (T:List Ty) (e:TypeId):zL (w.alloc (.cells (zR T).toArray e)) (.slice (some ⟨w.heap.size,0,none⟩) T.length T.length) T:=by
 refine ⟨_,_,rfl,fun i hi=>⟨w.heap.size,0,rfl,by simp,?_⟩⟩
 obtain ⟨h1,h2,h3⟩:=zhT T i hi
 rw [Nat.zero_add]
 refine ⟨?_,?_,?_⟩
 ·rw [World.cell?_alloc_mark w _ e (0,0)];simpa using h1
 ·rw [World.cell?_alloc_mark w _ e (0,0)];simpa using h2
 rw [World.cell?_alloc_mark w _ e (0,0)];simpa using h3
def zB3 (w:World) (en:Ending) (w':World):Prop:=∃ v,en=.returned v/\zL w' v plT/\Below w.heap.size w w'
def zB4 (w:World) (en:Ending) (w':World):Prop:=∃ v,en=.returned v/\zai w' v plC/\Below w.heap.size w w'
def zB5 (w:World) (en:Ending) (w':World):Prop:=∃ g,en=.returned (.pointer (some ⟨g,0,none⟩))/\ic w' g plT plC/\Below w.heap.size w w'
theorem zB6 (w:World):Calls prog 23 #[] w (zB3 w):=by
 have HT:=Hy (zq2 w plT 69)
 go_enter func23,ntmps23
 go_wp2
 go_ret
 exact ⟨_,rfl,HT.o,(Br _).alloc Lr _⟩
def zcM (e:TypeId) (w:World):List (List (Bs))->World
 | []=>w
 | l :: r=>zcM e (w.alloc (.cells (sc l).toArray e)) r
theorem zq3 (e:TypeId) (ls:List (List (Bs))):∀ w:World,(zcM e w ls).heap.size=w.heap.size+ls.length:=by
 induction ls with
 | nil=>intro w;rfl
 | cons l r ih=>intro w;rw [zcM,ih];simp;omega
theorem zhX (e:TypeId) (ls:List (List (Bs))):∀ w:World,Below w.heap.size w (zcM e w ls):=by
 induction ls with
 | nil=>intro w;exact Br _
 | cons l r ih=>intro w;exact ((Br w).alloc Lr _).trans ((ih _).mono Sm)
theorem zB7 (e:TypeId) (ls:List (List (Bs))):∀ (w:World) (i:Nat) (h:i<ls.length),TxR (zcM e w ls) (.slice (some ⟨w.heap.size+i,0,none⟩) ls[i].length ls[i].length) ls[i]:=by
 induction ls with
 | nil=>intro w i h;simp at h
 | cons l r ih =>
  intro w i h
  cases i with
  | zero=>exact zA (zgI w l e) (zhX e r _)
  | succ i =>
   have:=ih (w.alloc (.cells (sc l).toArray e)) i (by simpa using h)
   rw [World.size_alloc,show w.heap.size+1+i=w.heap.size+(i+1) by omega] at this
   exact this
theorem zB8 (w:World) (C:List Cl) (L:List (Bs × Value × Value)) (e:TypeId) (hl:L.length=C.length) (h:∀ i (h1:i<C.length) (h2:i<L.length),L[i].1=C[i].1/\TxR w L[i].2.1 C[i].2.1/\TxR w L[i].2.2 C[i].2.2/\zam L[i].2.1/\zam L[i].2.2) :
  zai (w.alloc (.cells (zaG L).toArray e)) (.slice (some ⟨w.heap.size,0,none⟩) C.length C.length) C:=by
 refine ⟨_,_,rfl,fun i hi=>?_⟩
 obtain ⟨h0,t1,t2,s1,s2⟩:=h i hi Om
 obtain ⟨a1,a2,a3⟩:=zhU L i Om
 have hb:Below w.heap.size w (w.alloc (.cells (zaG L).toArray e)):=(Br w).alloc Lr _
 refine ⟨w.heap.size,0,L[i].2.1,L[i].2.2,rfl,by simp,?_,?_,?_,zA t1 hb,zA t2 hb,s1,s2⟩
 ·rw [Nat.zero_add,World.cell?_alloc_mark w _ e (0,0)];rw [h0] at a1;simpa using a1
 ·rw [Nat.zero_add,World.cell?_alloc_mark w _ e (0,0)];simpa using a2
 rw [Nat.zero_add,World.cell?_alloc_mark w _ e (0,0)];simpa using a3
def zdm:List (List (Bs)):=(plC.drop 1).flatMap fun c=>[c.2.1,c.2.2]
def slN (b n:Nat):Value:=.slice (some ⟨b,0,none⟩) n n
def zav (b:Nat):List (Bs × Value × Value) :=
 [([116,111,112],.slice none 0 0,.slice none 0 0),([112,101,114,115,111,110],slN b 2,slN (b+1) 7),([111,114,103,97,110,105,122,97,116,105,111,110,97,108,117,110,105,116],slN (b+2) 1,slN (b+3) 2),
 ([100,111,109,97,105,110],slN (b+4) 1,slN (b+5) 2),([103,114,111,117,112],slN (b+6) 1,slN (b+7) 2)]
theorem zq4 (w:World):zai ((zcM 9 w zdm).alloc (.cells (zaG (zav w.heap.size)).toArray 72)) (.slice (some ⟨w.heap.size+8,0,none⟩) 5 5) plC:=by
 have hz:=zq3 9 zdm w
 have ha:=fun i h=>zB7 9 zdm w i h
 have h:=zB8 (zcM 9 w zdm) plC (zav w.heap.size) 72 rfl (fun i h1 h2=>by
  match i,h1 with
  | 0,_=>exact ⟨rfl,znB _ _ _,znB _ _ _,.inl rfl,.inl rfl⟩
  | 1,_=>exact ⟨rfl,ha 0 De,ha 1 De,.inr ⟨_,_,_,rfl⟩,.inr ⟨_,_,_,rfl⟩⟩
  | 2,_=>exact ⟨rfl,ha 2 De,ha 3 De,.inr ⟨_,_,_,rfl⟩,.inr ⟨_,_,_,rfl⟩⟩
  | 3,_=>exact ⟨rfl,ha 4 De,ha 5 De,.inr ⟨_,_,_,rfl⟩,.inr ⟨_,_,_,rfl⟩⟩
  | 4,_=>exact ⟨rfl,ha 6 De,ha 7 De,.inr ⟨_,_,_,rfl⟩,.inr ⟨_,_,_,rfl⟩⟩)
 rw [hz] at h
 exact h
theorem zB9 (w:World):Calls prog 24 #[] w (zB4 w):=by
 have HC:=Hy (zq4 w)
 have HB:=Hy (show Below w.heap.size w ((zcM 9 w zdm).alloc (.cells (zaG (zav w.heap.size)).toArray 72)) from (zhX _ _ w).alloc (zhX _ _ w).size _)
 go_enter func24,ntmps24
 go_wp2
 go_ret
 exact ⟨_,rfl,HC.o,HB.o⟩
theorem zkC (w:World):Calls prog 7 #[] w (zB5 w):=by
 have HT:=Hy (zB6 w)
 have HC:=Hy zB9
 go_enter func7,ntmps7
 go_wp2_with fail
 refine HT.o.mono ?_
 rintro en w1 ⟨tv,rfl,ht,au⟩
 have H1:=Hy (An ht au)
 clear ht au
 go_wp2_with fail
 refine (HC.o w1).mono ?_
 rintro en w2 ⟨cv,rfl,hc,ak⟩
 have H2:=Hy (An (zbc H1.o.1 ak) (An hc (H1.o.2.trans (ak.mono H1.o.2.size))))
 clear hc ak
 go_wp2_with fail
 refine (zB1 plT plC tv cv w2 H2.o.1 H2.o.2.1 Dk Dk Dk Dk).mono ?_
 rintro en w3 ⟨_,aS,aK⟩
 obtain ⟨g,rfl,bk⟩:=aS zB2
 rw [zq0,zq1] at bk
 have H3:=Hy (An bk (H2.o.2.2.trans (aK.mono H2.o.2.2.size)))
 clear bk aK aS
 go_wp2
 go_ret
 exact ⟨g,rfl,H3.o.1,H3.o.2⟩
def zCa (l:List (Bs)) (w:World) (en:Ending) (w':World):Prop :=
 ∃ a c,en=.returned (.slice a l.length c)/\w'.ownsRow w.heap.size 9 1 (.slice a l.length c) l.length (sc l)/\Below w.heap.size w w'
theorem zCb (w:World) (e:TypeId):(w.alloc (.cells #[] e)).ownsRow w.heap.size e 1 (.slice (some ⟨w.heap.size,0,none⟩) 0 0) 0 [] :=
 ⟨rfl,.inr ⟨w.heap.size,0,#[],rfl,Nat.le_refl _,heap_alloc_new w _,Nat.le_refl _,Nat.zero_le _,rfl,rfl⟩⟩
theorem zCc (l:List (Bs)) (v:Value) (w:World) (h:TxR w v l) (hk:zam v) (hl:l.length<=1000000) :
  Calls prog 64 #[v] w (zCa l w):=by
 have hr:=zec h hk
 obtain ⟨a,c,rfl,_⟩:=h
 rcases hk with hk | ⟨ad,n,c',hk⟩
 ·injection hk with h1 h2 h3
  subst h1 h3
  have hq:∀ w:World,(binOp .eql 47 (.slice none l.length 0) (.slice none 0 0)).run prog w=.ok (.bool true) w:=fun w=>by rw [h2];kernel_rfl
  have HL:=Hy h2
  clear h2 hr hl
  go_enter func64,ntmps64
  go_wp2
  go_ret
  obtain rfl:l=[]:=List.eq_nil_of_length_eq_zero HL.o
  exact ⟨none,0,rfl,⟨rfl,.inl ⟨rfl,rfl⟩⟩,Br _⟩
 injection hk with h1 h2 h3
 subst h1
 have hq:∀ w:World,(binOp .eql 47 (.slice (some ad) l.length c) (.slice none 0 0)).run prog w=.ok (.bool false) w:=fun w=>by kernel_rfl
 have j9:zbl (w.alloc (.cells #[] 9)) 1 (.slice (some ad) l.length c) l.length (sc l):=zdt hr ((Br w).alloc Lr _)
 have HR:=Hy (An j9 (zCb w 9))
 obtain ⟨n1,de⟩:=Ex l.length
 have HN:=Hy de
 rw [de] at HR hl hq ⊢
 clear hr j9 h2 h3 de
 go_enter func64,ntmps64
 go_wp2_with (at_builtin;refine zaf rfl (.tmp 5) (.tmp 6) 47 9 rfl w.heap.size 1 16 _ Tryz.sninfo9 underlying47 rfl De _ 0 [] rfl HR.o.2 _ n1 (sc l) rfl HR.o.1 (zcD l) Mx Om Sm ?_;intro v' w' h1 h2 h3)
 rw [Nat.zero_add] at h1
 obtain ⟨na,nc,rfl⟩:=zh h1
 have hc:Chg (fun k=>some k=(Value.slice (some ⟨w.heap.size,0,none⟩) 0 0).ownBlock) (w.alloc (.cells #[] 9)) w':=h2
 have hb:Below w.heap.size w w':=((Br w).alloc Lr _).trans (hc.toBelow Sm (fun k _ hk=>by injection hk with hk;have hk:k=w.heap.size:=hk;omega))
 clear h2 h3
 go_ret
 have hn:=HN.o
 subst hn
 exact ⟨na,nc,rfl,h1,hb⟩
theorem zq5 {α:Type} (T:List α) (i:Nat) (h:i<T.length):(some i).bind (fun i=>T[i]?)=some T[i]:=by simp [h]
theorem zq6 (g:Nat) (T:List Ty) (C:List Cl) (s:Bs) (w:World) (h:ic w g T C) (ds:zdD T) (hs:s.length<=140737488355328) (aF:T.length<=1024) :
  Calls prog 105 #[.pointer (some ⟨g,0,none⟩),.string ⟨s.toArray⟩] w (zkj (scT T s) w):=by
 have dB:=zx0 ds s
 have cV:=Hy (fun w=>show Calls prog 72 #[.string ⟨s.toArray⟩] w (zG (za s) w) from zco ⟨s.toArray⟩ w)
 have j4:(za s).length<=140737488355328:=by simpa [za] using hs
 obtain ⟨LS,mr⟩:=Ex (za s)
 rw [mr] at cV dB j4
 have HP:=Hy (fun w' (hb:Below w.heap.size w w')=>(show Calls prog 78 #[.pointer (some ⟨g,0,none⟩),.string ⟨LS.toArray⟩] w' (zhQ (ixL (T.map (·.1)) LS) w') by
  obtain ⟨m1,a1,n1,c1,m2,a2,n2,c2,h1,h2,_⟩:=zby h hb
  exact zhR g 0 m1 _ LS w' (zc0 h1).1 h2 j4))
 obtain ⟨R,hR⟩:=Ex (scT T s)
 rw [hR] at dB ⊢
 have HS:=Hy h
 have aE:Below w.heap.size w (w.alloc (.cells #[.string ⟨#[]⟩,.int .i64 0,.bool false] 69)):=(Br w).alloc Lr _
 have x0:(w.alloc (.cells #[.string ⟨#[]⟩,.int .i64 0,.bool false] 69)).heap[w.heap.size]?=some (.cells #[.string ⟨#[]⟩,.int .i64 0,.bool false] 69 (0,0)):=heap_alloc_new w _
 obtain ⟨W0,aN⟩:=Ex (w.alloc (.cells #[.string ⟨#[]⟩,.int .i64 0,.bool false] 69))
 rw [aN] at aE x0
 have gD:=Hy aN
 have bO:w.heap.size<W0.heap.size:=zi x0
 have HX:=Hy (An aE x0)
 have bZ:=zkA h
 cases hq:ixL (T.map (·.1)) LS with
 | none =>
  rw [hq] at dB HP
  have HR:=Hy (show R=none from dB)
  have JT:=Hy (fun w' (hb:Below w.heap.size w w')=>(show Calls prog 78 #[.pointer (some ⟨g,0,none⟩),.string ⟨LS.toArray⟩] w' (fun en w''=>en=.returned (.tuple #[.int .i64 0,.bool false])/\w'=w'') from HP.o w' hb))
  clear HP h mr j4 hR dB aN aE x0 hq
  go_enter func105,ntmps105
  go_wp2
  rw [gD.o]
  go_region_held3 (fun _=>True) (exact trivial) (first
   | (go_at_call 72;(with_reducible refine (cV.o _).mono ?_);rintro en w5 ⟨rfl,ai⟩;have ax:Below W0.heap.size W0 w5:=(Br W0).drew.trans ai)
   | (go_at_call 78;(with_reducible refine (JT.o _ (HX.o.1.trans (ax.mono HX.o.1.size))).mono ?_);rintro en w6 ⟨rfl,rfl⟩))
  have x5:=zj HX.o.2 ax bO
  have HB:=Hy (An (HX.o.1.trans (ax.mono HX.o.1.size)) x5)
  obtain ⟨r0,r1,r2⟩:=ze x5
  have f0:=zc x5 0
  have f1:=zc x5 1
  have f2:=zc x5 2
  clear ai ax x5
  go_wp2
  obtain ⟨j0,j1,j2⟩:=ze (zbR HB.o.2 (.string ⟨#[]⟩) (.int .i64 0) (.bool false))
  refine bodyPost_ret (v:=TyV none) (by simp [results,results105,go_sem,TyV, *]) rfl ?_
  exact ⟨by rw [HR.o],zbV HB.o.1 Lr _ _ _⟩
 | some i =>
  rw [hq] at dB HP
  obtain ⟨oD,rF⟩:=zdg hq
  have hi:i<T.length:=by simpa using oD
  rw [zq5 T i hi] at dB
  have JT:=Hy (fun w' (hb:Below w.heap.size w w')=>(show Calls prog 78 #[.pointer (some ⟨g,0,none⟩),.string ⟨LS.toArray⟩] w' (fun en w''=>en=.returned (.tuple #[.int .i64 (i:Nat),.bool true])/\w'=w'') from HP.o w' hb))
  obtain ⟨nm,aJ⟩:=Ex (T[i].1)
  obtain ⟨rl,bP⟩:=Ex (T[i].2.1)
  obtain ⟨sg,fL⟩:=Ex (T[i].2.2)
  have HR:=Hy (show R=some (nm,rl,sg) by rw [dB,<- aJ,<- bP,<- fL])
  obtain ⟨n,hn⟩:=Ex T.length
  have HC:=Hy (show ∃ a1 c1 g1 o1,a1=some (Addr.mk g1 o1 none)/\w.cell? ⟨g,1,none⟩=some (.slice a1 n c1)/\g1<w.heap.size/\w.cell? ⟨g1,o1+i*3,none⟩=some (.string ⟨nm.toArray⟩)/\w.cell? ⟨g1,o1+i*3+1,none⟩=some (.int .i64 rl)/\w.cell? ⟨g1,o1+i*3+2,none⟩=some (.bool sg) by
   obtain ⟨m1,a1,n1,c1,m2,a2,n2,c2,h1,_,⟨a,c,e,h3⟩,_⟩:=h
   injection e with e1 e2 e3
   subst e1 e2 e3
   obtain ⟨g1,o1,e,h4,h5,h6,h7⟩:=h3 i hi
   rw [aJ] at h5
   rw [bP] at h6
   rw [fL] at h7
   refine ⟨a1,c1,g1,o1,e,?_,h4,h5,h6,h7⟩
   have:=(zc0 h1).2.1
   rw [hn] at this
   exact this)
  rw [hn] at hi aF
  have cG:(i:Int)<(n:Int):=by omega
  have hi'':(0:Int)<=(i:Int):=by omega
  clear HP h mr j4 hR dB aN aE x0 hq rF oD aJ bP fL hn
  obtain ⟨a1,c1,g1,o1,rfl,Oa,bI,aU,aP,cI⟩:=HC.o
  clear HC
  have HE:=Hy (An Oa (An aU (An aP cI)))
  clear Oa aU aP cI
  go_enter func105,ntmps105
  go_wp2
  rw [gD.o]
  go_region_held3 (fun _=>True) (exact trivial) (first
   | (go_at_call 72;(with_reducible refine (cV.o _).mono ?_);rintro en w5 ⟨rfl,ai⟩;have ax:Below W0.heap.size W0 w5:=(Br W0).drew.trans ai)
   | (go_at_call 78;(with_reducible refine (JT.o _ (HX.o.1.trans (ax.mono HX.o.1.size))).mono ?_);rintro en w6 ⟨rfl,rfl⟩))
  have x5:=zj HX.o.2 ax bO
  have xK:=HX.o.1.trans (ax.mono HX.o.1.size)
  have HB:=Hy (An xK x5)
  have p1:=(xK.cell (p:=⟨g,1,none⟩) bZ).trans HE.o.1
  have e0:=(xK.cell (p:=⟨g1,_,none⟩) bI).trans HE.o.2.1
  have e1:=(xK.cell (p:=⟨g1,_,none⟩) bI).trans HE.o.2.2.1
  have e2:=(xK.cell (p:=⟨g1,_,none⟩) bI).trans HE.o.2.2.2
  obtain ⟨r0,r1,r2⟩:=ze x5
  have f0:=zc x5 0
  have f1:=zc x5 1
  have f2:=zc x5 2
  clear ai ax x5 xK
  go_wp2
  obtain ⟨j0,j1,j2⟩:=ze (zbR HB.o.2 (.string ⟨nm.toArray⟩) (.int .i64 rl) (.bool sg))
  refine bodyPost_ret (v:=TyV (some (nm,rl,sg))) (by simp [results,results105,go_sem,TyV, *]) rfl ?_
  exact ⟨by rw [HR.o],zbV HB.o.1 Lr _ _ _⟩
def zaB (w:World) (v:Value) (A:List Atr):Prop :=
 ∃ a c,v=.slice a A.length c/\∀ i (hi:i<A.length),∃ g o vl,a=some ⟨g,o,none⟩/\g<w.heap.size/\w.cell? ⟨g,o+i*2,none⟩=some (.string ⟨A[i].1.toArray⟩)/\w.cell? ⟨g,o+i*2+1,none⟩=some vl/\TxR w vl A[i].2
theorem zbL (h:zaB w v A) (hb:Below w.heap.size w w'):zaB w' v A:=by
 obtain ⟨a,c,rfl,h⟩:=h
 refine ⟨a,c,rfl,fun i hi=>?_⟩
 obtain ⟨g,o,vl,h1,h2,h3,h4,h5⟩:=h i hi
 exact ⟨g,o,vl,h1,Nat.lt_of_lt_of_le h2 hb.size,(hb.cell (p:=⟨g,_,none⟩) h2).trans h3,(hb.cell (p:=⟨g,_,none⟩) h2).trans h4,zA h5 hb⟩
def zdO:Ty:=([],0,false)
theorem zCd:∀ (R:List Ty) (i:Nat) (h:i<R.length) (t:Ty),(((zR R).set (i*3) (.string ⟨t.1.toArray⟩)).set (i*3+1) (.int .i64 t.2.1)).set (i*3+2) (.bool t.2.2)=zR (R.set i t):=by
 intro R
 induction R with
 | nil=>intro i h;simp at h
 | cons r R ih =>
  intro i h t
  have e:∀ r:Ty,∀ R,zR (r :: R)=.string ⟨r.1.toArray⟩ :: .int .i64 r.2.1 :: .bool r.2.2 :: zR R:=fun _ _=>rfl
  cases i with
  | zero=>rfl
  | succ i =>
   rw [e,List.set_cons_succ,e,show (i+1)*3=i*3+1+1+1 by omega]
   simp only [List.set_cons_succ]
   rw [<- ih i (by simpa using h) t]
theorem zCe (n:Nat):madeCells #[Value.string ByteArray.empty,Value.int .i64 0,Value.bool false] (n*3)=(zR (List.replicate n zdO)).toArray:=by
 apply Array.ext'
 unfold madeCells
 rw [Array.toList_map,Array.toList_range]
 show _=zR (List.replicate n zdO)
 induction n with
 | zero=>rfl
 | succ n ih =>
  have e:∀ r:Ty,∀ R,zR (R++[r])=zR R++[.string ⟨r.1.toArray⟩,.int .i64 r.2.1,.bool r.2.2]:=fun r R=>by rw [zqO];rfl
  rw [List.replicate_succ',e,<- ih,show (n+1)*3=n*3+1+1+1 by omega,List.range_succ,List.range_succ,List.range_succ]
  simp only [List.map_append,List.map_cons,List.map_nil,List.append_assoc,List.cons_append,List.nil_append]
  congr 1
  have h0:(n*3)%3=0:=by omega
  have h1:(n*3+1)%3=1:=by omega
  have h2:(n*3+1+1)%3=2:=by omega
  show [(#[Value.string ByteArray.empty,Value.int .i64 0,Value.bool false] : Array Value)[(n*3)%3]!,(#[Value.string ByteArray.empty,Value.int .i64 0,Value.bool false] : Array Value)[(n*3+1)%3]!,(#[Value.string ByteArray.empty,Value.int .i64 0,Value.bool false] : Array Value)[(n*3+1+1)%3]!]=_
  rw [h0,h1,h2]
  rfl
theorem zCf (n:Nat) (W:World) (hn:n<=1000000):(Instr.makeSlice 28 (.int .i64 (n:Int)) (.int .i64 (n:Int))).run prog W=.ok (.slice (some ⟨W.heap.size,0,none⟩) n n) (W.alloc (.cells (zR (List.replicate n zdO)).toArray 69)):=by
 obtain ⟨i0,hi,bO,bi,ce⟩:=info_parts Tryz.sninfo69
 have h:=run_make (P:=prog) W 28 69 i0 (.agg #[.string ByteArray.empty,.int .i64 0,.bool false]) underlying28 hi bO .i64 .i64 (n:Int) (n:Int) Om Om (by rw [ce];omega) Om
 have e:madeCells (Value.agg #[.string ByteArray.empty,.int .i64 0,.bool false]).cells ((n:Int).toNat*i0.size)=(zR (List.replicate n zdO)).toArray:=by
  rw [bi,show (n:Int).toNat*3=n*3 by omega];exact zCe n
 rw [e] at h
 simpa using h
theorem zq7 {α:Type} (R:List α) (j:Nat) (h:j<R.length) (q:α):(R.set j q).take (j+1)=R.take j++[q]:=by
 rw [List.take_succ_eq_append_getElem (by simpa using h),List.take_set,List.set_eq_of_length_le (by rw [List.length_take];omega)]
 simp
def tyG (T:List Ty) (a:Atr):Ty:=(scT T a.1).getD zdO
def zaC (T:List Ty) (A:List Atr):Bool:=A.all fun a=>(scT T a.1).isSome
def zkD (T:List Ty) (A:List Atr) (w:World) (en:Ending) (w':World):Prop :=
 (zaC T A=false->en=.returned (.tuple #[.slice none 0 0,.bool false]))/\(zaC T A=true->∃ a c,en=.returned (.tuple #[.slice a A.length c,.bool true])/\zL w' (.slice a A.length c) (A.map (tyG T)))/\Below w.heap.size w w'
theorem zCg (h:zaC T A=false) (hb:Below w.heap.size w w'):zkD T A w (.returned (.tuple #[.slice none 0 0,.bool false])) w' :=
 ⟨fun _=>rfl,(fun h2=>by rw [h] at h2;cases h2),hb⟩
theorem zCh {a:Option Addr} {c:Nat} (h:zaC T A=true) (hn:A.length=n) (ht:zL w' (.slice a n c) (A.map (tyG T))) (hb:Below w.heap.size w w'):zkD T A w (.returned (.tuple #[.slice a n c,.bool true])) w':=by
 subst hn
 exact ⟨(fun h2=>by rw [h] at h2;cases h2),fun _=>⟨a,c,rfl,ht⟩,hb⟩
theorem zCi {R:List Ty} {c:Nat} (h:w.heap[g]?=some (.cells (zR R).toArray e (0,0))):zL w (.slice (some ⟨g,0,none⟩) R.length c) R:=by
 refine ⟨_,_,rfl,fun i hi=>⟨g,0,rfl,zi h,?_⟩⟩
 obtain ⟨h1,h2,h3⟩:=zhT R i hi
 rw [Nat.zero_add]
 exact ⟨zq h _ _ (by simpa using h1),zq h _ _ (by simpa using h2),zq h _ _ (by simpa using h3)⟩
theorem zCj (g:Nat) (T:List Ty) (C:List Cl) (A:List Atr) (v:Value) (w:World) (h:ic w g T C) (ds:zdD T) (aF:T.length<=1024) (hA:zaB w v A) (hl:A.length<=1000000) (hs:∀ a∈A,a.1.length<=140737488355328) :
  Calls prog 95 #[.pointer (some ⟨g,0,none⟩),v] w (zkD T A w):=by
 have fF:=Hy (fun w' (hb:Below w.heap.size w w') s (hs:s.length<=140737488355328)=>zq6 g T C s w' (zby h hb) ds hs aF)
 obtain ⟨a,c,rfl,ae⟩:=hA
 have HM:=Hy ae
 have HS:=Hy hs
 obtain ⟨n,hn⟩:=Ex A.length
 have HL:=Hy hn
 have gI:=Hy (show ∀ k (hk:k<A.length),scT T A[k].1=none->zaC T A=false by
  intro k hk h
  unfold zaC
  rw [List.all_eq_false]
  exact ⟨A[k],List.getElem_mem hk,by rw [h];simp⟩)
 have pM:=Hy (show (∀ k (hk:k<A.length),(scT T A[k].1).isSome=true)->zaC T A=true by
  intro h
  unfold zaC
  rw [List.all_eq_true]
  intro x hx
  obtain ⟨j,hj,rfl⟩:=List.getElem_of_mem hx
  exact h j hj)
 obtain ⟨L,hL⟩:=Ex (A.map (tyG T))
 have ru:=Hy hL
 have ig:L.length=n:=by rw [<- hL];simpa using hn
 rw [hn] at hl ⊢
 have cC:=fun W=>zCf n W hl
 obtain ⟨W1,aB⟩:=Ex (w.alloc (.cells (zR (List.replicate n zdO)).toArray 69))
 have aE:=Nb aB
 have x0:=Nw aB
 have HX:=Hy (An aE x0)
 have NR:=Hy ig
 obtain ⟨M,hM⟩:=Ex ((zR (List.replicate n zdO)).toArray)
 rw [hM] at aB
 have qP:∀ W,(Instr.makeSlice 28 (.int .i64 (n:Int)) (.int .i64 (n:Int))).run prog W=.ok (.slice (some ⟨W.heap.size,0,none⟩) n n) (W.alloc (.cells M 69)):=by rw [<- hM];exact cC
 have br:=Hy aB
 clear ae hs hn h hL ig aE x0 hM cC aB
 go_enter func95,ntmps95
 go_wp2
 rw [br.o]
 clear qP
 go_loopw [16] (fun v wr=>∃ (k:Nat) (R:List Ty),k<=n/\v=.int .i64 (k:Nat)/\R.length=n/\R.take k=L.take k/\wr.heap[w.heap.size]?=some (.cells (zR R).toArray 69 (0,0))/\Below w.heap.size w wr/\∀ j (hj:j<A.length),j<k->(scT T A[j].1).isSome=true) (fun v _=>n - (intOf v).toNat)
 case atStart=>exact ⟨0,List.replicate n zdO,by omega,rfl,by simp,by simp,HX.o.2,HX.o.1,fun j _ h=>by omega⟩
 case round =>
  obtain ⟨k,R,hk,rfl,iB,sK,aG,hb,af⟩:=hrel
  have cQ:=hb.size
  by_cases aj:k<n
  ·have bh:(k:Int)<(n:Int):=by omega
   have aO:k<A.length:=by rw [HL.o];exact aj
   obtain ⟨g1,o1,vl,rfl,bI,aU,aP,dt⟩:=HM.o k aO
   obtain ⟨va,vc,rfl,_⟩:=dt
   have e0:=(hb.cell (p:=⟨g1,_,none⟩) bI).trans aU
   have e1:=(hb.cell (p:=⟨g1,_,none⟩) bI).trans aP
   have aY:=HS.o _ (List.getElem_mem aO)
   have vK:w.heap.size<wr.heap.size:=zi aG
   obtain ⟨nl,fv⟩:=Ex (A[k].2.length)
   rw [fv] at e1
   have Oc:=Hy (gI.o k aO)
   have vL:∀ t,scT T A[k].1=some t->L[k]?=some t:=by
    intro t ht
    rw [<- ru.o]
    simp [aO,tyG,ht]
   have dE:∀ t,scT T A[k].1=some t->∀ j (hj:j<A.length),j<k+1->(scT T A[j].1).isSome=true:=by
    intro t ht j hj fB
    by_cases e:j=k
    ·subst e;rw [ht];rfl
    exact af j hj Om
   obtain ⟨nm,aJ⟩:=Ex (A[k].1)
   rw [aJ] at e0 aY Oc vL dE
   obtain ⟨W2,aL⟩:=Ex (wr.alloc (.cells #[.string ⟨nm.toArray⟩,.slice va nl vc] 74))
   have ak:=Nb aL
   have iZ:=fF.o W2 (hb.trans (ak.mono cQ)) nm aY
   have HI:=Hy (An sK (An aG (An hb (An dE (An vL iB)))))
   have fp:=Hy aL
   have bw:=Hy ak
   have y2:=Nw aL
   obtain ⟨i0,i1⟩:=zf y2
   cases ht:scT T nm with
   | none =>
    rw [ht] at iZ
    have vM:=Hy (show Calls prog 105 #[.pointer (some ⟨g,0,none⟩),.string ⟨nm.toArray⟩] W2 (fun en w'=>en=.returned (.tuple #[.agg #[.string ⟨#[]⟩,.int .i64 0,.bool false],.bool false])/\Below W2.heap.size W2 w') from iZ)
    have HQ:=Hy (Oc.o ht)
    clear sK aG hb dE vL iB aL ak y2 ht iZ aU aP fv aJ aY af
    go_wp2_with fail
    rw [fp.o]
    refine vM.o.mono ?_
    rintro en w5 ⟨rfl,ai⟩
    have bY:=Hy (HI.o.2.2.1.trans ((bw.o.trans (ai.mono bw.o.size)).mono cQ))
    clear ai i0 i1 e0 e1
    go_wp2
    go_ret2
    exact zCg HQ.o (bY.o.alloc bY.o.size _)
   | some tt =>
    obtain ⟨tn,tr,ts⟩:=tt
    rw [ht] at iZ
    have vM:=Hy (show Calls prog 105 #[.pointer (some ⟨g,0,none⟩),.string ⟨nm.toArray⟩] W2 (fun en w'=>en=.returned (.tuple #[.agg #[.string ⟨tn.toArray⟩,.int .i64 tr,.bool ts],.bool true])/\Below W2.heap.size W2 w') from iZ)
    have HQ:=Hy (An (vL _ ht) (dE _ ht))
    clear sK aG hb dE vL iB aL ak y2 ht iZ aU aP fv aJ aY af
    go_wp2_with fail
    rw [fp.o]
    refine vM.o.mono ?_
    rintro en w5 ⟨rfl,ai⟩
    have rG:=bw.o.trans (ai.mono bw.o.size)
    have ql:w.heap.size<w5.heap.size:=Nat.lt_of_lt_of_le vK rG.size
    have lC:k<R.length:=by rw [HI.o.2.2.2.2.2];exact aj
    have blk5:=zj HI.o.2.1 rG vK
    obtain ⟨t0,t1,t2⟩:=zhT R k lC
    have c0:=zq blk5 (k*3) _ (by simpa using t0)
    have c1:=zq blk5 (k*3+1) _ (by simpa using t1)
    have c2:=zq blk5 (k*3+2) _ (by simpa using t2)
    have f0:=zc blk5 (k*3)
    have f1:=zc blk5 (k*3+1)
    have f2:=zc blk5 (k*3+2)
    have bY:=Hy (An (HI.o.2.2.1.trans (rG.mono cQ)) blk5)
    clear ai i0 i1 e0 e1 blk5 rG t0 t1 t2
    go_wp2
    have bm:=zCd R k lC (tn,tr,ts)
    have e3:((((zR R).toArray.setIfInBounds (k*3) (.string ⟨tn.toArray⟩)).setIfInBounds (k*3+1) (.int .i64 tr)).setIfInBounds (k*3+2) (.bool ts))=(zR (R.set k (tn,tr,ts))).toArray:=by
     rw [List.setIfInBounds_toArray,List.setIfInBounds_toArray,List.setIfInBounds_toArray,bm]
    refine ⟨⟨k+1,R.set k (tn,tr,ts),by omega,by go_num,by rw [List.length_set];exact HI.o.2.2.2.2.2,?_,?_,?_,HQ.o.2⟩,by simp [intOf];omega⟩
    ·rw [zq7 R k lC,HI.o.1,List.take_add_one,HQ.o.1];rfl
    ·refine za0 ?_ _
     rw [<- e3]
     exact zH (zH (zH bY.o.2 _ _) _ _) _ _
    exact Below.alloc (((bY.o.1.setCell (p:=⟨w.heap.size,_,none⟩) Lr _).setCell (p:=⟨w.heap.size,_,none⟩) Lr _).setCell (p:=⟨w.heap.size,_,none⟩) Lr _) So _
  obtain rfl:k=n:=by omega
  have Od:R=L:=by
   have h1:R.take k=R:=List.take_of_length_le Om
   have h2:L.take k=L:=List.take_of_length_le (by rw [NR.o];exact Nat.le_refl _)
   rw [<- h1,sK,h2]
  have dA:zL wr (.slice (some ⟨w.heap.size,0,none⟩) k k) (A.map (tyG T)):=by
   have:=zCi (c:=k) aG
   rw [iB,Od] at this
   rw [ru.o]
   exact this
  have H:=Hy (An dA (An hb (pM.o (fun j hj=>af j hj (by rw [<- HL.o];exact hj)))))
  clear iB sK aG hb af Od dA
  go_wp2
  go_ret2
  exact zCh H.o.2.2 HL.o H.o.1 H.o.2.1
end Go.Proofs.YtijglbolppkefaaGreatDoor
