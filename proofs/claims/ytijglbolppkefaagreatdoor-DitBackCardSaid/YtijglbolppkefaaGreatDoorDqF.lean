/- strconv.ParseUint of two digits. -/
import Derived.Test.YtijglbolppkefaaGreatDoorDqE
import Derived.Test.YtijglbolppkefaaGreatDoorFoldAE
import Derived.Lib.UnsafeStr
import Derived.Lib.BufferWrite
import Derived.Lib.AtoiErrMem
import Derived.Lib.IfaceEq
import Derived.Lib.IfaceNeq
import Derived.Laws.MakeOwn
import Derived.Deep.RegionWith
import Derived.RegionTactic
import Derived.Deep.RegionHeld3
import Derived.Test.YtijglbolppkefaaGreatDoorMDqA
set_option linter.unusedVariables false
set_option linter.unusedSimpArgs false
set_option maxHeartbeats 25600000
set_option maxRecDepth 100000
namespace Go.Proofs.YtijglbolppkefaaGreatDoor
open Go.Proofs.Tryz
open Go Go.RowKit Go.Proofs.BerK Go.Proofs.MemK Go.Proofs.UtfK
variable {w w' : World} {a b : Nat}
theorem zej {p:Prop} (h:p:=by
 go_wp2_with (go_at_call 252;refine (HL.o _).mono ?_;rintro e w' ⟨rfl,rfl⟩)
 go_ret2
 exact ⟨by rw [zlF (fun hh=>by have h1:=H.o.1;have h2:=H.o.2;omega)];rfl,HB.o⟩):p:=h
theorem zlx {p:Prop} (h:p:=by
 refine ⟨⟨2,_,by omega,by go_num,rfl,rfl,?_,fun _=>A4.o,fun _=>?_⟩,by simp [intOf]⟩
 ·have h1:=H.o.1;have h2:=H.o.2;have h3:=HA.o
  refine Hy ?_
  rw [zsl]
  omega
 have h1:=H.o.1;have h2:=H.o.2;omega):p:=h
theorem zly {p:Prop} (h:p:=by
 go_enter func223,ntmps223
 go_wp2_with fail
 refine (HI.o _).mono ?_
 rintro e w1 ⟨rfl,hw⟩
 obtain rfl:=hw.symm
 go_wp2
 go_ret2
 exact ⟨by rw [H.o];rfl,Br _⟩):p:=h
theorem zlz {p:Prop} (h:p:=by
 refine ⟨⟨1,_,by omega,by go_num,rfl,rfl,?_,fun _=>?_,fun h=>by omega⟩,by simp [intOf]⟩
 ·have h1:=H.o.1;have h2:=H.o.2
  refine Hy ?_
  rw [zsk]
  omega
 have h1:=H.o.1;have h2:=H.o.2;omega):p:=h
theorem zsg (s:ByteArray) (w:World) (qN:s.size<=140737488355328):Calls prog 258 #[.string s] w fun e w'=>e=.returned (.string s)/\Below w.heap.size w w':=by
 by_cases h0:s.size=0
 ·have hs:s=⟨#[]⟩:=by
   apply ByteArray.ext
   exact Array.eq_empty_of_size_eq_zero h0
  subst hs
  go_enter func258,ntmps258
  go_wp2
  go_ret
  exact ⟨rfl,Br _⟩
 obtain ⟨i0,hi,bO,bi,ce⟩:=info_parts Tryz.info5
 have A5:(prog.info? 5).map (·.size)=some 1:=by rw [hi];simp [bi]
 have hco:prog.cellsOf 5 = 1:=by simp [Program.cellsOf,hi,bi]
 obtain ⟨M,hM⟩:∃ M,M=madeCells (Value.int .u8 0).cells (((s.size:Nat):Int).toNat*i0.size):=⟨_,rfl⟩
 have hMs:M.size=s.size:=by rw [hM,size_madeCells,bi];simp
 have cC:∀ W:World,(Instr.makeSlice 176 (.int .i64 (s.size:Int)) (.int .i64 (s.size:Int))).run prog W=.ok (.slice (some ⟨W.heap.size,0,none⟩) s.size s.size) (W.alloc (.cells M 5)):=fun W=>by
  have h:=run_make (P:=prog) W 176 5 i0 (.int .u8 0) underlying176 hi bO .i64 .i64 (s.size:Int) (s.size:Int) Om Om (by rw [ce];omega) Om
  rw [<- hM] at h
  simpa using h
 clear hM
 have hcp:=Lib.run_copy_row_string (P:=prog) (w.alloc (.cells M 5)) 176 9 3 5 w.heap.size 0 s.size s.size s M 5 underlying176 A5 (heap_alloc_new w _) Lr Om
 obtain ⟨Y,hY⟩:∃ Y,Y=(M.toList.take 0++Lib.byteCells s.data.toList++M.toList.drop (0+s.size)).toArray:=⟨_,rfl⟩
 rw [<- hY] at hcp
 have LC:Y.toList=Lib.byteCells s.data.toList:=by
  rw [hY,List.toList_toArray,List.take_zero,List.nil_append,List.drop_of_length_le (by rw [Array.length_toList];omega),List.append_nil]
 have hYs:Y.size=s.size:=by rw [<- Array.length_toList,LC,Lib.byteCells_length,<- Lib.size_eq]
 have LD:((w.alloc (.cells M 5)).setRow w.heap.size Y).heap[w.heap.size]?=some (.cells Y 5 (0,0)):=setRow_heap _ _ M _ 5 (0,0) (heap_alloc_new w _)
 have aH:s.data.toList≠[]:=fun e=>h0 (by rw [Lib.size_eq,e];rfl)
 have hUS:=Lib.run_unsafeString_row (P:=prog) ((w.alloc (.cells M 5)).setRow w.heap.size Y) 294 3 9 5 Kr hco w.heap.size Y.size (by unfold World.shape?;rw [LD]) s.data.toList aH (by rw [<- Lib.size_eq];omega) (by rw [<- Lib.size_eq];omega)
  (fun j x hx=>Lib.cells_of_row LD Y.size j _ (by rw [List.take_of_length_le (by rw [Array.length_toList];exact Nat.le_refl _),LC];simp [Lib.byteCells,hx]))
 rw [<- Lib.size_eq] at hUS
 clear hY
 go_enter func258,ntmps258
 go_wp2
 go_ret
 have au:Below w.heap.size w (w.alloc (.cells M 5)):=(Br w).alloc Lr _
 have ak:Below w.heap.size (w.alloc (.cells M 5)) ((w.alloc (.cells M 5)).setRow w.heap.size Y):=⟨rfl,rfl,rfl,by simp,fun k hk=>setRow_other _ _ _ _ Om⟩
 exact ⟨rfl,Lib.below_freeze (au.trans ak) (p:=⟨w.heap.size,0,none⟩) Lr _⟩
def zD (w:World):Prop:=∃ ev,w.cell? ⟨3,0,none⟩=some ev/\(ev=.nilIface\/∃ te pe,ev=.iface te pe)
theorem zax (h:zD w) (hb:Below w.heap.size w w'):zD w':=by
 obtain ⟨ev,hv,he⟩:=h
 exact ⟨ev,(hb.cell (p:=⟨3,0,none⟩) (Lib.lt_of_cell hv)).trans hv,he⟩
theorem zlA {B:Nat} (h:zD w) (hb:Below B w w') (hB:3 < B):zD w':=by
 obtain ⟨ev,hv,he⟩:=h
 exact ⟨ev,(hb.cell (p:=⟨3,0,none⟩) hB).trans hv,he⟩
theorem zsh (fn s:ByteArray) (qN:s.size<=140737488355328) (w:World) (h:zD w) :
  Calls prog 254 #[.string fn,.string s] w fun e w'=>(∃ N,e=.returned (.pointer (some ⟨N,0,none⟩)))/\Below w.heap.size w w':=by
 obtain ⟨ev,hv,hev⟩:=h
 have HC:=Hy (fun w=>zsg s w qN)
 have hG:3 < w.heap.size:=Lib.lt_of_cell hv
 rcases hev with rfl | ⟨te,pe,rfl⟩
 ·go_enter func254,ntmps254
  go_wp2
  go_region_held3 (fun w'=>w'.cell? ⟨3,0,none⟩=some (.nilIface)) (first | exact cg | exact hv | go_keep)
   (first | (go_at_call 258;refine (HC.o _).mono ?_;rintro en w5 ⟨rfl,ai⟩;have aQ:Below w.heap.size w w5:=(Br w).drew.trans ai;have cg:=(aQ.cell (p:=⟨3,0,none⟩) hG).trans hv))
  go_wp2
  go_ret
  exact ⟨⟨_,rfl⟩,aQ.alloc aQ.size _⟩
 go_enter func254,ntmps254
 go_wp2
 go_region_held3 (fun w'=>w'.cell? ⟨3,0,none⟩=some (.iface te pe)) (first | exact cg | exact hv | go_keep)
  (first | (go_at_call 258;refine (HC.o _).mono ?_;rintro en w5 ⟨rfl,ai⟩;have aQ:Below w.heap.size w w5:=(Br w).drew.trans ai;have cg:=(aQ.cell (p:=⟨3,0,none⟩) hG).trans hv))
 go_wp2
 go_ret
 exact ⟨⟨_,rfl⟩,aQ.alloc aQ.size _⟩
theorem zsi (fn s:ByteArray) (a b:Int) (qN:s.size<=140737488355328) (w:World) (h:zD w) :
  Calls prog 248 #[.string fn,.string s,.int .i64 a,.int .i64 b,.iface 285 (.int .i64 2)] w fun e w'=>(∃ N,e=.returned (.iface 287 (.pointer (some ⟨N,0,none⟩))))/\Below w.heap.size w w':=by
 have HC:=Hy (zsh fn s qN w h)
 have LE:∀ W,(binOp .eql 270 (.iface 285 (.int .i64 2)) (.iface 285 (.int .i64 2))).run prog W=.ok (.bool true) W:=fun W=>Lib.run_eql_iface_int W 2 2 underlying270 Kr underlying285
 go_enter func248,ntmps248
 go_wp2_with fail
 refine HC.o.mono ?_
 rintro e w1 ⟨⟨N,rfl⟩,hb⟩
 go_wp2
 go_ret
 exact ⟨⟨N,rfl⟩,hb⟩
theorem zsj:∀ c:Fin 256,bits BinOp.or IntKind.u8 ((c.val:Nat):Int) 32=((c.val ||| 32:Nat):Int):=by decide +kernel
theorem zlB (c:Nat) (h:c<256) (w:World):Calls prog 252 #[.int .u8 (c:Nat)] w fun e w'=>e=.returned (.int .u8 ((c ||| 32:Nat):Int))/\w'=w:=by
 have ho:=zsj ⟨c,h⟩
 simp only [] at ho
 go_enter func252,ntmps252
 go_wp2
 go_ret
 exact ⟨rfl,rfl⟩
theorem zlC:∀ c:Fin 256,(48<=c.val/\c.val<=57/\hxN c.val+48=c.val)\/((c.val<48\/57<c.val)/\97<=(c.val ||| 32)/\(c.val ||| 32)<=102/\hxN c.val+87=(c.val ||| 32)) \/
  ((c.val<48\/57<c.val)/\103<=(c.val ||| 32)/\(c.val ||| 32)<=122/\hxN c.val=16)\/((c.val<48\/57<c.val)/\(c.val ||| 32)<97/\hxN c.val=16)\/((c.val<48\/57<c.val)/\122<(c.val ||| 32)/\hxN c.val=16):=by decide +kernel
theorem zlD:∀ c:Fin 256,(c.val ||| 32)<256:=by decide +kernel
def pvN (a b k:Nat):Nat:=if k=0 then 0 else if k=1 then hxN a else 16*hxN a+hxN b
theorem zsk (a b:Nat):pvN a b 1=hxN a:=rfl
theorem zsl (a b:Nat):pvN a b 2=16*hxN a+hxN b:=rfl
def zfc (a b:Nat):Value:=if hxN a<16/\hxN b<16 then .tuple #[.int .u64 ((16*hxN a+hxN b:Nat):Int),.nilIface] else .tuple #[.int .u64 0,.iface 285 (.int .i64 2)]
theorem zlE (h1:hxN a<16) (h2:hxN b<16):zfc a b=.tuple #[.int .u64 ((16*hxN a+hxN b:Nat):Int),.nilIface]:=by rw [zfc,if_pos ⟨h1,h2⟩]
theorem zlF (h:¬ (hxN a<16/\hxN b<16)):zfc a b=.tuple #[.int .u64 0,.iface 285 (.int .i64 2)]:=by rw [zfc,if_neg h]
theorem zlG (s:ByteArray) (hs:s.size=2) (w:World) :
  Calls prog 247 #[.string s,.int .i64 16,.int .i64 8] w fun e w'=>e=.returned (zfc (s[0]'Om).toNat (s[1]'Om).toNat)/\Below w.heap.size w w':=by
 have dS:=zbW s Om
 have gY:=run_bytes_of_string (P:=prog) w 9 176 5 s underlying9 underlying176 underlying5
 have hR:=znF w w.drew s 5 rfl
 have wu:Below w.heap.size w (w.drew.alloc (zcZ w s 5)):=(Br w).drew.alloc Lr _
 change (convert 9 176 (.string s)).run prog w=.ok _ (w.drew.alloc (zcZ w s 5)) at gY
 obtain ⟨W0,aN⟩:=Ex (w.drew.alloc (zcZ w s 5))
 obtain ⟨cap,bM⟩:=Ex (grownCap w s.size 0 5)
 rw [aN,bM,hs] at gY
 rw [aN] at hR wu
 clear aN bM
 have HB:=Hy wu
 have hl:=zl s
 have c0:=hR.2.1 0 Om
 have c1:=hR.2.1 1 Om
 rw [zay s 0 Om] at c0
 rw [zay s 1 Om] at c1
 have x8:=(s[0]'Om).toNat_lt
 have y8:=(s[1]'Om).toNat_lt
 obtain ⟨x,hx⟩:=Ex ((s[0]'Om).toNat)
 obtain ⟨y,hy⟩:=Ex ((s[1]'Om).toNat)
 rw [hx] at c0 x8 ⊢
 rw [hy] at c1 y8 ⊢
 clear hR wu hl hx hy
 go_enter func247,ntmps247
 go_wp2
 go_loop [12,13,101] (fun u n v=>∃ (k:Nat) (z:Int),k<=2/\v=.int .i64 (k:Nat)/\n=.int .u64 z/\u=.bool false/\Hd (z=(pvN x y k:Nat))/\(0<k->hxN x<16)/\(1<k->hxN y<16)) (fun _ _ v=>2 - (intOf v).toNat)
 case atStart=>exact ⟨0,0,by omega,rfl,rfl,rfl,Hy rfl,by omega,by omega⟩
 case round =>
  obtain ⟨k,z,hk,rfl,rfl,rfl,hz,lW,gN⟩:=hrel
  have i8:k=0\/k=1\/k=2:=by omega
  rcases i8 with rfl | rfl | rfl
  ·obtain rfl:z=0:=hz.o
   clear hz
   have HL:=Hy (zlB x x8)
   have aj:=zlD ⟨x,x8⟩
   have hw:=zlC ⟨x,x8⟩
   simp only [] at hw aj
   obtain ⟨L,hL⟩:=Ex (x ||| 32)
   obtain ⟨d,hd⟩:=Ex (hxN x)
   have jE:x=95->L=127:=fun h=>by rw [h] at hL;exact hL.symm
   rw [hL] at HL hw aj
   rw [hd] at hw
   rcases hw with ⟨q1,q2,q3⟩ | ⟨q0,q1,q2,q3⟩ | ⟨q0,q1,q2,q3⟩ | ⟨q0,q1,q3⟩ | ⟨q0,q1,q3⟩
   ·have H:=Hy (An hd q3)
    have r1:(48:Int)<=(x:Int):=by omega
    have r2:(x:Int)<=57:=by omega
    clear lW gN hd q3 q1 q2 hL jE
    go_wp2
    ·exact zlz
   ·have H:=Hy (An hd q3)
    have r3:(97:Int)<=(L:Int):=by omega
    have r4:(L:Int)<=122:=by omega
    have r5:(L:Int)<=102:=by omega
    have r0:(x:Int)<48\/(48:Int)<=(x:Int)/\(57:Int)<(x:Int):=by omega
    have r9:((x:Int)==95)=false:=by rw [beq_eq_false_iff_ne];intro hh;have:=jE Om;omega
    clear jE
    clear lW gN hd q3 q1 q2 hL q0
    rcases r0 with r0 | ⟨r0,r1⟩
    all_goals
     go_wp2_with (go_at_call 252;refine (HL.o _).mono ?_;rintro e w' ⟨rfl,rfl⟩)
     exact zlz
   ·have H:=Hy (An hd q3)
    have r3:(97:Int)<=(L:Int):=by omega
    have r4:(L:Int)<=122:=by omega
    have r5:(103:Int)<=(L:Int):=by omega
    have r0:(x:Int)<48\/(48:Int)<=(x:Int)/\(57:Int)<(x:Int):=by omega
    have r9:((x:Int)==95)=false:=by rw [beq_eq_false_iff_ne];intro hh;have:=jE Om;omega
    clear jE
    clear lW gN hd q3 q1 q2 hL q0
    rcases r0 with r0 | ⟨r0,r1⟩
    all_goals
     exact zej
   ·have H:=Hy (An hd q3)
    have r3:(L:Int)<97:=by omega
    have r0:(x:Int)<48\/(48:Int)<=(x:Int)/\(57:Int)<(x:Int):=by omega
    have r9:((x:Int)==95)=false:=by rw [beq_eq_false_iff_ne];intro hh;have:=jE Om;omega
    clear jE
    clear lW gN hd q3 q1 hL q0
    rcases r0 with r0 | ⟨r0,r1⟩
    all_goals
     exact zej
   have H:=Hy (An hd q3)
   have r3:(97:Int)<=(L:Int):=by omega
   have r4:(122:Int)<(L:Int):=by omega
   have r0:(x:Int)<48\/(48:Int)<=(x:Int)/\(57:Int)<(x:Int):=by omega
   clear jE
   clear lW gN hd q3 q1 hL q0
   obtain ⟨u9,r9⟩:=Ex ((x:Int)==95)
   rcases r0 with r0 | ⟨r0,r1⟩ <;> cases u9
   all_goals
    exact zej
  ·have HA:=Hy (show z=(hxN x:Nat) from hz.o)
   have A4:=Hy (lW Om)
   have bO:(0:Int)<=z:=by have:=HA.o;omega
   have bi:z<=15:=by have:=HA.o;have:=A4.o;omega
   clear hz
   have HL:=Hy (zlB y y8)
   have aj:=zlD ⟨y,y8⟩
   have hw:=zlC ⟨y,y8⟩
   simp only [] at hw aj
   obtain ⟨L,hL⟩:=Ex (y ||| 32)
   obtain ⟨d,hd⟩:=Ex (hxN y)
   have jE:y=95->L=127:=fun h=>by rw [h] at hL;exact hL.symm
   rw [hL] at HL hw aj
   rw [hd] at hw
   rcases hw with ⟨q1,q2,q3⟩ | ⟨q0,q1,q2,q3⟩ | ⟨q0,q1,q2,q3⟩ | ⟨q0,q1,q3⟩ | ⟨q0,q1,q3⟩
   ·have H:=Hy (An hd q3)
    have r1:(48:Int)<=(y:Int):=by omega
    have r2:(y:Int)<=57:=by omega
    clear lW gN hd q3 q1 q2 hL jE
    go_wp2
    ·exact zlx
   ·have H:=Hy (An hd q3)
    have r3:(97:Int)<=(L:Int):=by omega
    have r4:(L:Int)<=122:=by omega
    have r5:(L:Int)<=102:=by omega
    have r0:(y:Int)<48\/(48:Int)<=(y:Int)/\(57:Int)<(y:Int):=by omega
    have r9:((y:Int)==95)=false:=by rw [beq_eq_false_iff_ne];intro hh;have:=jE Om;omega
    clear jE
    clear lW gN hd q3 q1 q2 hL q0
    rcases r0 with r0 | ⟨r0,r1⟩
    all_goals
     go_wp2_with (go_at_call 252;refine (HL.o _).mono ?_;rintro e w' ⟨rfl,rfl⟩)
     exact zlx
   ·have H:=Hy (An hd q3)
    have r3:(97:Int)<=(L:Int):=by omega
    have r4:(L:Int)<=122:=by omega
    have r5:(103:Int)<=(L:Int):=by omega
    have r0:(y:Int)<48\/(48:Int)<=(y:Int)/\(57:Int)<(y:Int):=by omega
    have r9:((y:Int)==95)=false:=by rw [beq_eq_false_iff_ne];intro hh;have:=jE Om;omega
    clear jE
    clear lW gN hd q3 q1 q2 hL q0
    rcases r0 with r0 | ⟨r0,r1⟩
    all_goals
     exact zej
   ·have H:=Hy (An hd q3)
    have r3:(L:Int)<97:=by omega
    have r0:(y:Int)<48\/(48:Int)<=(y:Int)/\(57:Int)<(y:Int):=by omega
    have r9:((y:Int)==95)=false:=by rw [beq_eq_false_iff_ne];intro hh;have:=jE Om;omega
    clear jE
    clear lW gN hd q3 q1 hL q0
    rcases r0 with r0 | ⟨r0,r1⟩
    all_goals
     exact zej
   have H:=Hy (An hd q3)
   have r3:(97:Int)<=(L:Int):=by omega
   have r4:(122:Int)<(L:Int):=by omega
   have r0:(y:Int)<48\/(48:Int)<=(y:Int)/\(57:Int)<(y:Int):=by omega
   clear jE
   clear lW gN hd q3 q1 hL q0
   obtain ⟨u9,r9⟩:=Ex ((y:Int)==95)
   rcases r0 with r0 | ⟨r0,r1⟩ <;> cases u9
   all_goals
    exact zej
  have H:=Hy (An (zlE (lW Om) (gN Om)) (show z=((16*hxN x+hxN y:Nat):Int) from hz.o))
  clear lW gN hz
  go_wp2
  go_ret2
  exact ⟨by rw [H.o.1,<- H.o.2];rfl,HB.o⟩
theorem zsm (s:ByteArray) (hs:s.size=2) (h1:hxN (s[0]'Om).toNat<16) (h2:hxN (s[1]'Om).toNat<16) (w:World) :
  Calls prog 237 #[.string s,.int .i64 16,.int .i64 8] w fun e w'=>e=.returned (.tuple #[.int .u64 ((16*hxN (s[0]'Om).toNat+hxN (s[1]'Om).toNat:Nat):Int),.nilIface])/\Below w.heap.size w w':=by
 have HC:=Hy (zlG s hs w)
 rw [zlE h1 h2] at HC
 obtain ⟨n,hn⟩:∃ n:Int,((16*hxN (s[0]'Om).toNat+hxN (s[1]'Om).toNat:Nat):Int)=n:=⟨_,rfl⟩
 rw [hn] at HC ⊢
 clear hn h1 h2
 go_enter func237,ntmps237
 go_wp2_with fail
 refine HC.o.mono ?_
 rintro e w1 ⟨rfl,hb⟩
 go_wp2
 go_ret2
 exact ⟨rfl,hb⟩
theorem zsn (s:ByteArray) (hs:s.size=2) (h:¬ (hxN (s[0]'Om).toNat<16/\hxN (s[1]'Om).toNat<16)) (w:World) (he:zD w) :
  Calls prog 237 #[.string s,.int .i64 16,.int .i64 8] w fun e w'=>(∃ N,e=.returned (.tuple #[.int .u64 0,.iface 287 (.pointer (some ⟨N,0,none⟩))]))/\Below w.heap.size w w':=by
 have HC:=Hy (zlG s hs w)
 rw [zlF h] at HC
 have HT:=Hy (fun w' (hb:Below w.heap.size w w')=>zsi ⟨#[80,97,114,115,101,85,105,110,116]⟩ s 16 8 Om w' (zax he hb))
 clear h he
 go_enter func237,ntmps237
 go_wp2_with fail
 refine HC.o.mono ?_
 rintro e w1 ⟨rfl,hb⟩
 have eS:=Hy (HT.o w1 hb)
 have HB:=Hy hb
 clear hb
 go_wp2_with fail
 refine eS.o.mono ?_
 rintro e w2 ⟨⟨N,rfl⟩,ak⟩
 go_wp2
 go_ret2
 exact ⟨⟨N,rfl⟩,HB.o.trans (ak.mono HB.o.size)⟩
def RmV:Option (UInt8 × Nat)->Value
 | none=>.tuple #[.int .u8 0,.int .i64 0]
 | some (c,n)=>.tuple #[.int .u8 (c.toNat:Nat),.int .i64 (n:Nat)]
def zso (o:Option (UInt8 × Nat)) (w:World) (en:Ending) (w':World):Prop:=en=.returned (RmV o)/\Below w.heap.size w w'
theorem zlH (s:ByteArray) (h:2<=s.size):s.data.toList=s[0] :: s[1] :: s.data.toList.drop 2:=by
 have hl:=zl s
 have h0:=zO s.data.toList 0 Om
 have h1:=zO s.data.toList 1 Om
 rw [List.drop_zero,zay s 0 Om] at h0
 rw [zay s 1 Om] at h1
 rw [h1] at h0
 exact h0
theorem zsp (s:ByteArray) (h:2<=s.size):s.extract 0 2=⟨#[s[0],s[1]]⟩:=by
 have h1:(s.extract 0 2).data.toList=[s[0],s[1]]:=by
  rw [Lib.extract_data,List.drop_zero,zlH s h];rfl
 rw [<- zbD (s.extract 0 2),h1]
theorem zsq (s:ByteArray) (w:World) (he:zD w) :
  Calls prog 223 #[.string s] w (zso (rmL s.data.toList) w):=by
 by_cases h0:s.size=0
 ·have dS:=zcF s h0
  have hn:s.data.toList=[]:=List.eq_nil_of_length_eq_zero (by rw [zl];exact h0)
  have H:=Hy (show rmL s.data.toList=none by rw [hn];rfl)
  clear hn h0 he
  go_enter func223,ntmps223
  go_wp2
  go_ret2
  exact ⟨by rw [H.o];rfl,Br _⟩
 have dS:=zbW s Om
 have hp:0<s.size:=by omega
 have hpi:(0:Int)<(s.size:Int):=by omega
 have hcut:=zcX s hp
 have hb:s[0].toNat<256:=s[0].toNat_lt
 have HM:=Hy (zwj s[0].toNat hb)
 have HI:=Hy (znX ⟨#[44,43,34,92,60,62,59,61,32,35]⟩ (s[0].toNat:Nat))
 change Hd (∀ w,Calls prog _ _ w (zcE (Lib.indexByte [44,43,34,92,60,62,59,61,32,35] (UInt8.ofNat s[0].toNat)) w)) at HI
 obtain ⟨ix,dB⟩:=Ex (Lib.indexByte [44,43,34,92,60,62,59,61,32,35] (UInt8.ofNat s[0].toNat))
 rw [dB] at HM HI
 clear dB
 by_cases hm:zaO s[0].toNat=true
 ·have dB:(0:Int)<=ix:=by have:=HM.o;rw [hm] at this;simpa using this
  have H:=Hy (show rmL s.data.toList=some (s[0],1) by rw [hcut,zgZ _ _ hm])
  obtain ⟨x,hx⟩:=Ex (s[0])
  rw [hx] at H HI hb
  clear hm hcut h0 he HM
  exact zly
 have dB:ix<0:=by have:=HM.o;simp only [Bool.not_eq_true] at hm;rw [hm] at this;simpa using this
 by_cases h2:s.size<2
 ·have kD:(s.extract 1 s.size).data.toList=[]:=by rw [Lib.extract_to_end,List.drop_of_length_le (by rw [zl];omega)]
  have H:=Hy (show rmL s.data.toList=none by rw [hcut,kD,zjN _ hm])
  have h2i:(s.size:Int)<2:=by omega
  obtain ⟨x,hx⟩:=Ex (s[0])
  rw [hx] at HI hb
  clear hm hcut h0 he HM h2 kD
  exact zly
 have h2i:(2:Int)<=(s.size:Int):=by omega
 have eF:=zlH s Om
 have jb:=zsp s Om
 have hy8:s[1].toNat<256:=s[1].toNat_lt
 obtain ⟨x,hx⟩:=Ex (s[0])
 obtain ⟨y,hy⟩:=Ex (s[1])
 rw [hx,hy] at eF jb
 rw [hx] at hm hb HI
 rw [hy] at hy8
 by_cases hh:hxN x.toNat<16/\hxN y.toNat<16
 ·have H:=Hy (show rmL s.data.toList=some (UInt8.ofNat (16*hxN x.toNat+hxN y.toNat),2) by rw [eF,zfG _ _ _ hm,if_pos hh])
  have HP:=Hy (fun w=>zsm ⟨#[x,y]⟩ rfl hh.1 hh.2 w)
  have hn:16*hxN x.toNat+hxN y.toNat<256:=by omega
  change Hd (∀ w,Calls prog _ _ w fun e w'=>e=.returned (.tuple #[.int .u64 ((16*hxN x.toNat+hxN y.toNat:Nat):Int),.nilIface])/\Below w.heap.size w w') at HP
  obtain ⟨n,fs⟩:=Ex (16*hxN x.toNat+hxN y.toNat)
  rw [fs] at H HP hn
  have mI:(n:Int)<256:=by omega
  have hu:(UInt8.ofNat n).toNat=n:=by rw [UInt8.toNat_ofNat'];omega
  have HU:=Hy hu
  clear hm hcut h0 he HM eF hh fs hu
  go_enter func223,ntmps223
  go_wp2_with fail
  refine (HI.o _).mono ?_
  rintro e w1 ⟨rfl,hw⟩
  obtain rfl:=hw.symm
  go_wp2_with fail
  refine (HP.o _).mono ?_
  rintro e w2 ⟨rfl,ak⟩
  go_wp2
  go_ret2
  exact ⟨by rw [H.o,RmV,HU.o];rfl,ak⟩
 have H:=Hy (show rmL s.data.toList=none by rw [eF,zfG _ _ _ hm,if_neg hh])
 have HP:=Hy (fun w he=>zsn ⟨#[x,y]⟩ rfl hh w he)
 have HE:=Hy he
 clear hm hcut h0 he HM eF hh
 go_enter func223,ntmps223
 go_wp2_with fail
 refine (HI.o _).mono ?_
 rintro e w1 ⟨rfl,hw⟩
 obtain rfl:=hw.symm
 go_wp2_with fail
 refine (HP.o _ HE.o).mono ?_
 rintro e w2 ⟨⟨N,rfl⟩,ak⟩
 go_wp2
 go_ret2
 exact ⟨by rw [H.o];rfl,ak⟩
end Go.Proofs.YtijglbolppkefaaGreatDoor
