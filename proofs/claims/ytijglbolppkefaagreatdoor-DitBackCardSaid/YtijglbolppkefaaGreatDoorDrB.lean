/- A value's text read, the. -/
import Derived.Test.YtijglbolppkefaaGreatDoorMRuB
import Derived.Test.YtijglbolppkefaaGreatDoorDqG
import Derived.StillTailTactics
set_option linter.unusedVariables false
set_option linter.unusedSimpArgs false
set_option maxHeartbeats 25600000
set_option maxRecDepth 100000
namespace Go.Proofs.YtijglbolppkefaaGreatDoor
open Go.Proofs.Tryz
open Go Go.RowKit Go.Proofs.BerK Go.Proofs.MemK Go.Proofs.UtfK
variable {l : Bs} {a b c : Nat}
theorem zin {p:Prop} (h:p:=by
 go_wp2_with (first | (go_at_call 158;(with_reducible refine (HS.o _).mono ?_);rintro e w2 ⟨rfl,bL⟩;obtain rfl:=bL.symm;clear bL) | (at_builtin;refine zaj rfl (.tmp 26) (.tmp 28) 176 5 rfl w.heap.size 1 1 (.int .u8 0) Tryz.info5 underlying176 rfl De 1 [.int .u8 (c.toNat:Int)] rfl ?c0 _ out.length _ rfl _ rfl ?c3 H.o.1 ?c1 ?c2 H.o.2.1.size ?_))
 case c0=>first | rfl | (intro u hu;simp at hu;subst hu;rfl)
 case c1=>have:=H.o.2.2.2;unfold maxLen;omega
 case c2=>have:=H.o.2.2.2;omega
 case c3=>rfl
 intro v' w' g1 g2
 obtain ⟨va,vc,rfl⟩:=zh g1
 have g3:w'.ownsRow w.heap.size 5 1 (.slice va (out.length+1) vc) (out++[c]).length (bc (out++[c])):=by rw [zbU,List.length_append];exact g1
 have H2:=Hy (An g3 (H.o.2.1.trans g2))
 clear g1 g2 g3
 go_wp2
 refine ⟨⟨k+1,out.length+1,out++[c],by omega,by go_num,by go_num,by simp,by have:=H.o.2.2.2;simp;omega,H2.o.1,H2.o.2,by rw [HK.o.1];exact HI.o⟩,by simp [intOf];omega⟩):p:=h
theorem zlY {p:Prop} (h:p:=by
 go_wp2_with (go_at_call 158;(with_reducible refine (HS.o _).mono ?_);rintro e w2 ⟨rfl,bL⟩;obtain rfl:=bL.symm;clear bL)
 go_ret2
 exact ⟨by rw [HI.o];rfl,H.o.2.1⟩):p:=h
theorem zio (h:l=[]):l.isEmpty=true:=by subst h;rfl
theorem zip (h:l≠[]):l.isEmpty=false:=by cases l <;> simp_all
theorem zsU (x:ByteArray) (k:Nat) (h:k<x.size) (hm:zaO x[k].toNat=true):rmL (x.data.toList.drop k)=some (x[k],1):=by
 have hl:=zl x
 have hd:=zO x.data.toList k Om
 rw [zay x k h] at hd
 rw [hd,zgZ _ _ hm]
theorem zsV (x:ByteArray) (k:Nat) (h:k+1<x.size) (hm:¬ zaO (x[k]'Om).toNat=true):rmL (x.data.toList.drop k)=if hxN (x[k]'Om).toNat<16/\hxN x[k+1].toNat<16 then some (UInt8.ofNat (16*hxN (x[k]'Om).toNat+hxN x[k+1].toNat),2) else none:=by
 have hl:=zl x
 have hd:=zO x.data.toList k Om
 have j8:=zO x.data.toList (k+1) Om
 rw [zay x k Om] at hd
 rw [zay x (k+1) h] at j8
 rw [hd,j8,zfG _ _ _ hm]
theorem zsW (x:ByteArray) (k:Nat) (h:k<x.size) (h2:x.size<=k+1) (hm:¬ zaO x[k].toNat=true):rmL (x.data.toList.drop k)=none:=by
 have hl:=zl x
 have hd:=zO x.data.toList k Om
 rw [zay x k h] at hd
 rw [hd,List.drop_of_length_le Om,zjN _ hm]
theorem zsX (x:ByteArray) (k:Nat) (h:x.size<=k):rmL (x.data.toList.drop k)=none:=by
 have hl:=zl x
 rw [List.drop_of_length_le Om];rfl
theorem zsY (h:zaO c=true):spN c=true\/(spN c=false/\c=32)\/(spN c=false/\c≠32/\c=35):=by
 cases hs:spN c with
 | true=>exact .inl rfl
 | false =>
  simp only [zaO,hs,Bool.false_or,Bool.or_eq_true,decide_eq_true_eq] at h
  by_cases h2:c=32
  ·exact .inr (.inl ⟨rfl,h2⟩)
  exact .inr (.inr ⟨rfl,h2,by omega⟩)
theorem zsZ (h:¬ zaO c=true):spN c=false/\c≠32/\c≠35:=by
 simp only [zaO,Bool.or_eq_true,decide_eq_true_eq,not_or] at h
 exact ⟨by simpa using h.1.1,h.1.2,h.2⟩
theorem zem (h:a=b):((a:Int)==(b:Int))=true:=by subst h;simp
theorem zck (h:a≠b):((a:Int)==(b:Int))=false:=by rw [beq_eq_false_iff_ne];omega
theorem zgb (h:a≠b):((a:Int) != (b:Int))=true:=by rw [bne_iff_ne];omega
theorem ziq (h:a=b):((a:Int) != (b:Int))=false:=by subst h;simp
theorem zlZ (h:zau c=false):¬ ((c:Int)<32)/\c≠127:=by
 simp only [zau,Bool.or_eq_false_iff,decide_eq_false_iff_not] at h
 omega
theorem zs0 (m:Nat) (h:m<256):bc [UInt8.ofNat m]=[.int .u8 (m:Nat)]:=by
 simp [bc,Nat.mod_eq_of_lt h]
theorem zl0 (L out:Bs) (n k m:Nat) (f:Bool) (d:UInt8) (h:rmL (L.drop k)=some (d,m)):rvT out n f (92 :: L.drop k)=rvT (out++[d]) (out.length+1) false (L.drop (k+m)):=by
 rw [<- List.drop_drop]
 exact zfd _ _ _ d _ _ (by rw [zek,h])
theorem zgc (L out:Bs) (n k:Nat) (f:Bool) (h:rmL (L.drop k)=none):rvT out n f (92 :: L.drop k)=none:=zfe _ _ _ _ (by rw [zek,h])
theorem zs1 (s:ByteArray) (hs:s.size<=140737488355328) (w:World) :
  Calls prog 156 #[.string s] w (zf7 (rvL s.data.toList) w):=by
 obtain ⟨R,hR⟩:=Ex (rvL s.data.toList)
 have qQ:=Hy znV
 have LK:=Hy zAe
 rw [hR]
 unfold rvL at hR
 go_enter func156,ntmps156
 go_wp2
 go_loop [0] (fun v=>∃ x:ByteArray,v=.string x/\x.size<=140737488355328/\rvG true (tlB x.data.toList)=R) (fun v=>zds v)
 case atStart=>exact ⟨s,rfl,hs,hR⟩
 case round =>
  obtain ⟨x,rfl,lV,hx⟩:=hrel
  clear hR
  by_cases h:0<x.size/\x.data.toList.head? = some 32
  ·obtain ⟨hp,bA⟩:=h
   have hcut:=zcX x hp
   have h0:x[0]=32:=by rw [hcut] at bA;simpa using bA
   rw [hcut,zcP,if_pos h0] at hx
   have ht:((x[0].toNat:Int)==32)=true:=by rw [h0];rfl
   have hb:=x[0].toNat_lt
   have aH:=zbW x hp
   have h3:(1:Int)<=(x.size:Int):=by omega
   have h1:1<=x.size:=hp
   have hz:(x.extract 1 x.size).size=x.size - 1:=by rw [<- zl (x.extract 1 x.size),Lib.extract_to_end,List.length_drop,zl]
   have H:=Hy (An hx hz)
   obtain ⟨c,hc⟩:=Ex (x[0].toNat)
   rw [hc] at ht hb
   clear hx hcut h0 bA hz
   go_wp2
   refine ⟨⟨_,rfl,by rw [H.o.2];omega,H.o.1⟩,?_⟩
   show (x.extract 1 x.size).size<x.size
   rw [H.o.2];omega
  have hT:tlB x.data.toList=x.data.toList:=by
   by_cases hp:0<x.size
   ·have hcut:=zcX x hp
    rw [hcut,zcP,if_neg (fun e=>h ⟨hp,by rw [hcut,e];rfl⟩)]
   have hn:x.data.toList=[]:=List.eq_nil_of_length_eq_zero (by rw [zl];omega)
   rw [hn];rfl
  rw [hT,<- zlO] at hx
  have hw:x.size=0\/∃ hp:0<x.size,x[0]≠32:=by
   by_cases hp:0<x.size
   ·exact .inr ⟨hp,fun e=>h ⟨hp,by rw [zcX x hp,e];rfl⟩⟩
   exact .inl Om
  have nZ:=Hy hx
  clear h hT hx
  rcases hw with hp | ⟨hp,h0⟩
  ·have aH:=zcF x hp
   have HN:=Hy (show R=some [] by
    have hn:x.data.toList=[]:=List.eq_nil_of_length_eq_zero (by rw [zl];exact hp)
    rw [<- nZ.o,hn];rfl)
   have oo:((x.size:Int))=0:=by omega
   have bB:¬ ((0:Int)<(x.size:Int)):=by omega
   have gY:=zfy (P:=prog) (src:=176) (dst:=9) underlying176 underlying5 underlying9 (zjc w w.heap.size 5)
   clear hp
   go_wp2
   go_loopw [4,5,6] (fun o z v wr=>o=.slice none 0 0/\z=.int .i64 0/\v=.int .i64 0/\wr=w) (fun _ _ _ _=>0)
   case atStart=>exact ⟨rfl,rfl,rfl,rfl⟩
   case round =>
    obtain ⟨rfl,rfl,rfl,rfl⟩:=hrel
    go_wp2
    go_ret2
    exact ⟨by rw [HN.o];rfl,Br _⟩
  have aH:=zbW x hp
  have ht:((x[0].toNat:Int)==32)=false:=by
   rw [beq_eq_false_iff_ne];intro hh;apply h0;apply UInt8.toNat_inj.1;show _=32;omega
  have hb:=x[0].toNat_lt
  obtain ⟨c0,cF⟩:=Ex (x[0].toNat)
  rw [cF] at ht hb
  clear h0
  go_wp2
  go_loopw [4,5,6] (fun o z v wr=>∃ (k n:Nat) (out:Bs),k<=x.size/\v=.int .i64 (k:Nat)/\z=.int .i64 (n:Nat)/\n<=out.length/\out.length<=k/\wr.ownsRow w.heap.size 5 1 o out.length (bc out)/\Below w.heap.size w wr /\
   rvT out n (decide (out.length=0)) (x.data.toList.drop k)=R) (fun _ _ v _=>x.size - (intOf v).toNat)
  case atStart=>exact ⟨0,0,[],by omega,rfl,rfl,by simp,by simp,World.ownsRow_nil _ _ _ _,Br _,nZ.o⟩
  case round =>
   obtain ⟨k,n,out,hk,rfl,rfl,hn,aS,ab,ak,hinv⟩:=hrel
   clear aH ht hb cF
   by_cases aj:k<x.size
   ·have hl:=zl x
    have bh:(k:Int)<(x.size:Int):=by omega
    have h8:x[k].toNat<256:=x[k].toNat_lt
    have hd:=zO x.data.toList k Om
    rw [zay x k aj] at hd
    rw [hd] at hinv
    have H:=Hy (An ab (An ak (An hn aS)))
    have HK:=Hy (An (show ∀ d:UInt8,decide ((out++[d]).length=0)=false by intro d;simp) hl)
    clear ab ak hd hl
    obtain ⟨c,hc⟩:=Ex (x[k])
    rw [hc] at h8 hinv
    have Bb:x[k].toNat=c.toNat:=by rw [hc]
    by_cases bE:c.toNat=92
    ·obtain rfl:c=92:=UInt8.toNat_inj.1 bE
     have HC:=Hy (qQ.o 92)
     change Hd (∀ w,Calls prog _ #[.int .u8 92] w (za1 true w)) at HC
     clear bE
     change x[k].toNat=92 at Bb
     clear h8
     by_cases fM:k+1<x.size
     ·have GQ:(k:Int)+1<(x.size:Int):=by omega
      have hk0':(0:Int)<=(k:Int)+1:=by omega
      obtain ⟨d,hd⟩:=Ex (x[k+1])
      have h8d:d.toNat<256:=d.toNat_lt
      have hxd:x[k+1].toNat=d.toNat:=by rw [hd]
      have HS:=Hy (qQ.o d.toNat)
      by_cases hm:zaO d.toNat=true
      ·have HI:=Hy (show rvT (out++[d]) (out.length+1) false (x.data.toList.drop (k+2))=R by
        have gQ:=zsU x (k+1) fM (by rw [hd];exact hm)
        rw [hd] at gQ
        rw [<- hinv];exact (zl0 _ _ _ (k+1) 1 _ d gQ).symm)
       have jF:=zsY hm
       clear hinv hd hm
       rcases jF with e1 | ⟨e1,e2⟩ | ⟨e1,e2,e3⟩
       all_goals
        rw [e1] at HS
        try have q2:((d.toNat:Int)==32)=false:=zck e2
        try have q2:((d.toNat:Int)==32)=true:=zem e2
        try have q3:((d.toNat:Int)==35)=true:=zem e3
        clear e1
        try clear e2
        try clear e3
        go_wp2_with (first | (go_at_call 158;refine (HS.o _).mono ?_;rintro e w2 ⟨rfl,bL⟩;obtain rfl:=bL.symm;clear bL) | (at_builtin;refine zaj rfl (.tmp 63) (.tmp 68) 176 5 rfl w.heap.size 1 1 (.int .u8 0) Tryz.info5 underlying176 rfl De 1 [.int .u8 (d.toNat:Int)] rfl ?c0 _ out.length _ rfl _ rfl ?c3 H.o.1 ?c1 ?c2 H.o.2.1.size ?_))
        case c0=>first | rfl | (intro u hu;simp at hu;subst hu;rfl)
        case c1=>have:=H.o.2.2.2;unfold maxLen;omega
        case c2=>have:=H.o.2.2.2;omega
        case c3=>rfl
        intro v' w' g1 g2
        obtain ⟨va,vc,rfl⟩:=zh g1
        have g3:w'.ownsRow w.heap.size 5 1 (.slice va (out.length+1) vc) (out++[d]).length (bc (out++[d])):=by rw [zbU,List.length_append];exact g1
        have H2:=Hy (An g3 (H.o.2.1.trans g2))
        clear g1 g2 g3
        go_wp2
        refine ⟨⟨k+2,out.length+1,out++[d],by omega,by go_num,by go_num,by simp,by have:=H.o.2.2.2;simp;omega,H2.o.1,H2.o.2,by rw [HK.o.1];exact HI.o⟩,by simp [intOf];omega⟩
      obtain ⟨e1,e2,e3⟩:=zsZ hm
      have q2:((d.toNat:Int)==32)=false:=zck e2
      have q3:((d.toNat:Int)==35)=false:=zck e3
      rw [e1] at HS
      clear e1 e2 e3
      by_cases iC:k+2<x.size
      ·have Bc:(k:Int)+2<(x.size:Int):=by omega
       have LL:(0:Int)<=(k:Int)+2:=by omega
       obtain ⟨f,hf⟩:=Ex (x[k+2])
       have h8f:f.toNat<256:=f.toNat_lt
       have hxf:x[k+2].toNat=f.toNat:=by rw [hf]
       have gQ:=zsV x (k+1) iC (by rw [hd];exact hm)
       rw [hd,show x[k+1+1]=f from hf] at gQ
       have fd:=Hy (LK.o d.toNat h8d)
       have oq:=Hy (LK.o f.toNat h8f)
       obtain ⟨a,ha⟩:=Ex (hxN d.toNat)
       obtain ⟨b,hb⟩:=Ex (hxN f.toNat)
       rw [ha] at fd
       rw [hb] at oq
       rw [ha,hb] at gQ
       clear hd hf hm ha hb
       by_cases ha:a<16
       ·have qx:((a:Int)<16):=by omega
        by_cases hb:b<16
        ·have qy:((b:Int)<16):=by omega
         rw [if_pos ⟨ha,hb⟩] at gQ
         have HI:=Hy (show rvT (out++[UInt8.ofNat (16*a+b)]) (out.length+1) false (x.data.toList.drop (k+3))=R by
          rw [<- hinv];exact (zl0 _ _ _ (k+1) 2 _ _ gQ).symm)
         have HB:=Hy (zs0 (16*a+b) Om)
         have w1:IntKind.i64.wrap (16*(a:Int))=16*(a:Int):=by rw [IntKind.wrap_i64];omega
         have w2:IntKind.i64.wrap (16*(a:Int)+(b:Int))=16*(a:Int)+(b:Int):=by rw [IntKind.wrap_i64];omega
         have w3:IntKind.u8.wrap (16*(a:Int)+(b:Int))=16*(a:Int)+(b:Int):=by simp [IntKind.wrap,IntKind.signed,IntKind.bits];omega
         have w4:IntKind.i64.wrap ((k:Int)+1)=(k:Int)+1:=by rw [IntKind.wrap_i64];omega
         have w5:IntKind.i64.wrap ((k:Int)+2)=(k:Int)+2:=by rw [IntKind.wrap_i64];omega
         have wG:((k:Int)+2).toNat=k+2:=by omega
         clear hinv gQ ha hb
         go_wp2_with (first | (go_at_call 158;refine (HS.o _).mono ?_;rintro e w2 ⟨rfl,bL⟩;obtain rfl:=bL.symm;clear bL) | (go_at_call 184;(first | with_reducible refine (fd.o _).mono ?_ | with_reducible refine (oq.o _).mono ?_);rintro e w2 ⟨rfl,bL⟩;obtain rfl:=bL.symm;clear bL))
         go_region_law (first | (refine znL rfl (.tmp 100) (.tmp 114) 176 5 rfl w.heap.size 1 1 (.int .u8 0) Tryz.info5 underlying176 rfl (by decide) wr.drew 1 [_] rfl rfl (by intro u hu;simp at hu;subst hu;rfl) _ out.length (bc out) rfl _ rfl rfl (zaZ H.o.1 rfl) (by have:=H.o.2.2.2;unfold maxLen;omega) (by have:=H.o.2.2.2;omega) H.o.2.1.size ?_;intro v' w' h1 h2) | (go_simp;go_at_call 184;(first | with_reducible refine (fd.o _).mono ?_ | with_reducible refine (oq.o _).mono ?_);rintro e w2 ⟨rfl,bL⟩;obtain rfl:=bL.symm;clear bL))
         all_goals
          obtain ⟨va,vc,rfl⟩:=zh h1
          have HV:=Hy (An h1 h2)
          clear h1 h2
          go_wp2
          refine ⟨⟨k+3,out.length+1,out++[UInt8.ofNat (16*a+b)],by omega,by go_num,by go_num,by simp,by have:=H.o.2.2.2;simp;omega,?_,H.o.2.1.trans ((Br wr).drew.trans HV.o.2),by rw [HK.o.1];exact HI.o⟩,by simp [intOf];omega⟩
          rw [zbU,List.length_append,HB.o]
          have e3:((16*a+b:Nat):Int)=16*(a:Int)+(b:Int):=by omega
          rw [e3]
          exact HV.o.1
        have qy:¬ ((b:Int)<16):=by omega
        rw [if_neg Om] at gQ
        have HI:=Hy (show R=none by rw [<- hinv];exact zgc _ _ _ (k+1) _ gQ)
        have w4:IntKind.i64.wrap ((k:Int)+1)=(k:Int)+1:=by rw [IntKind.wrap_i64];omega
        have w5:IntKind.i64.wrap ((k:Int)+2)=(k:Int)+2:=by rw [IntKind.wrap_i64];omega
        have wG:((k:Int)+2).toNat=k+2:=by omega
        clear hinv gQ ha hb
        go_wp2_with (first | (go_at_call 158;(first | with_reducible refine (HS.o _).mono ?_ | with_reducible refine (HC.o _).mono ?_);rintro e w2 ⟨rfl,bL⟩;obtain rfl:=bL.symm;clear bL) | (go_at_call 184;(first | with_reducible refine (fd.o _).mono ?_ | with_reducible refine (oq.o _).mono ?_);rintro e w2 ⟨rfl,bL⟩;obtain rfl:=bL.symm;clear bL))
        go_ret2
        exact ⟨by rw [HI.o];rfl,H.o.2.1⟩
       have qx:¬ ((a:Int)<16):=by omega
       rw [if_neg Om] at gQ
       have HI:=Hy (show R=none by rw [<- hinv];exact zgc _ _ _ (k+1) _ gQ)
       have w4:IntKind.i64.wrap ((k:Int)+1)=(k:Int)+1:=by rw [IntKind.wrap_i64];omega
       clear hinv gQ ha
       go_wp2_with (first | (go_at_call 158;(first | with_reducible refine (HS.o _).mono ?_ | with_reducible refine (HC.o _).mono ?_);rintro e w2 ⟨rfl,bL⟩;obtain rfl:=bL.symm;clear bL) | (go_at_call 184;(first | with_reducible refine (fd.o _).mono ?_);rintro e w2 ⟨rfl,bL⟩;obtain rfl:=bL.symm;clear bL))
       go_ret2
       exact ⟨by rw [HI.o];rfl,H.o.2.1⟩
      have Bc:¬ ((k:Int)+2<(x.size:Int)):=by omega
      have HI:=Hy (show R=none by rw [<- hinv];exact zgc _ _ _ (k+1) _ (zsW x (k+1) fM Om (by rw [hd];exact hm)))
      clear hinv hd hm iC
      go_wp2_with (go_at_call 158;(first | with_reducible refine (HS.o _).mono ?_ | with_reducible refine (HC.o _).mono ?_);rintro e w2 ⟨rfl,bL⟩;obtain rfl:=bL.symm;clear bL)
      go_ret2
      exact ⟨by rw [HI.o];rfl,H.o.2.1⟩
     have GQ:¬ ((k:Int)+1<(x.size:Int)):=by omega
     have Bc:¬ ((k:Int)+2<(x.size:Int)):=by omega
     have HI:=Hy (show R=none by rw [<- hinv];exact zgc _ _ _ (k+1) _ (zsX x (k+1) Om))
     clear hinv fM
     go_wp2_with (go_at_call 158;(with_reducible refine (HC.o _).mono ?_);rintro e w2 ⟨rfl,bL⟩;obtain rfl:=bL.symm;clear bL)
     go_ret2
     exact ⟨by rw [HI.o];rfl,H.o.2.1⟩
    have ou:c≠92:=fun e=>bE (by rw [e];rfl)
    have q:((c.toNat:Int)==92)=false:=zck bE
    by_cases bA:c.toNat=32
    ·obtain rfl:c=32:=UInt8.toNat_inj.1 bA
     rw [zlM _ _ _ _ H.o.2.2.1] at hinv
     have HI:=Hy hinv
     change x[k].toNat=32 at Bb
     clear hinv bA bE q h8 ou
     go_wp2_with (at_builtin;refine zaj rfl (.tmp 123) (.tmp 125) 176 5 rfl w.heap.size 1 1 (.int .u8 0) Tryz.info5 underlying176 rfl De 1 [.int .u8 32] rfl ?c0 _ out.length _ rfl _ rfl ?c3 H.o.1 ?c1 ?c2 H.o.2.1.size ?_)
     case c0=>first | rfl | (intro u hu;simp at hu;subst hu;rfl)
     case c1=>have:=H.o.2.2.2;unfold maxLen;omega
     case c2=>have:=H.o.2.2.2;omega
     case c3=>rfl
     intro v' w' g1 g2
     obtain ⟨va,vc,rfl⟩:=zh g1
     have g3:w'.ownsRow w.heap.size 5 1 (.slice va (out.length+1) vc) (out++[32]).length (bc (out++[32])):=by rw [zbU,List.length_append];exact g1
     have H2:=Hy (An g3 (H.o.2.1.trans g2))
     clear g1 g2 g3
     go_wp2
     refine ⟨⟨k+1,n,out++[32],by omega,by go_num,rfl,by simp;have:=H.o.2.2.1;omega,by have:=H.o.2.2.2;simp;omega,H2.o.1,H2.o.2,by rw [HK.o.1];exact HI.o⟩,by simp [intOf];omega⟩
    have qR:c≠32:=fun e=>bA (by rw [e];rfl)
    have q2:((c.toNat:Int)==32)=false:=zck bA
    have HS:=Hy (qQ.o c.toNat)
    by_cases bJ:zau c.toNat=true\/(c≠61/\mkN (decide (out.length=0)) false c.toNat=true)
    ·have HI:=Hy (show R=none by rw [<- hinv];exact zfe _ _ _ _ (zii _ _ _ qR ou bJ))
     have jF:((c.toNat:Int)<32)\/(¬ ((c.toNat:Int)<32)/\c.toNat=127)\/(¬ ((c.toNat:Int)<32)/\c.toNat≠127/\spN c.toNat=true/\c.toNat≠61)\/(¬ ((c.toNat:Int)<32)/\c.toNat≠127/\spN c.toNat=false/\c.toNat=35/\out.length=0):=by
      by_cases hb:zau c.toNat=true
      ·simp only [zau,Bool.or_eq_true,decide_eq_true_eq] at hb;omega
      have fO:zau c.toNat=false:=by simpa using hb
      obtain ⟨b1,b2⟩:=zlZ fO
      rcases bJ with bJ | ⟨iA,cC⟩
      ·exact absurd bJ hb
      have GR:c.toNat≠61:=fun e=>iA (UInt8.toNat_inj.1 e)
      unfold mkN at cC
      rw [if_neg bA] at cC
      by_cases iD:c.toNat=35
      ·rw [if_pos iD] at cC
       exact .inr (.inr (.inr ⟨b1,b2,by rw [iD];decide,iD,by simpa using cC⟩))
      rw [if_neg iD] at cC
      exact .inr (.inr (.inl ⟨b1,b2,cC,GR⟩))
     clear hinv bJ bA bE ou qR
     rcases jF with e1 | ⟨e1,e2⟩ | ⟨e1,e2,e3,e4⟩ | ⟨e1,e2,e3,e4,e5⟩
     ·clear HS
      go_wp2
      go_ret2
      exact ⟨by rw [HI.o];rfl,H.o.2.1⟩
     ·have q3:((c.toNat:Int)==127)=true:=zem e2
      clear e2 HS
      go_wp2
      go_ret2
      exact ⟨by rw [HI.o];rfl,H.o.2.1⟩
     ·have q3:((c.toNat:Int)==127)=false:=zck e2
      have q4:((c.toNat:Int) != 61)=true:=zgb e4
      rw [e3] at HS
      clear e2 e3 e4
      exact zlY
     have q3:((c.toNat:Int)==127)=false:=zck e2
     have q4:((c.toNat:Int)==35)=true:=zem e4
     have q5:((out.length:Int)==0)=true:=zem e5
     have GS:out=[]:=List.eq_nil_of_length_eq_zero e5
     rw [e3] at HS
     obtain ⟨va,vc,rfl⟩:=zh H.o.1
     clear e2 e3 e4 e5 GS
     exact zlY
    have HI:=Hy (show rvT (out++[c]) (out.length+1) false (x.data.toList.drop (k+1))=R by rw [<- hinv];exact (zfd _ _ _ c _ _ (zf6 _ _ _ qR ou bJ)).symm)
    rw [not_or] at bJ
    obtain ⟨au,ak⟩:=bJ
    have fO:zau c.toNat=false:=by simpa using au
    obtain ⟨b1,b2⟩:=zlZ fO
    have jF:(spN c.toNat=false/\c.toNat≠35)\/(spN c.toNat=false/\c.toNat=35/\out.length≠0)\/(spN c.toNat=true/\c.toNat=61/\c.toNat≠35):=by
     by_cases iA:c.toNat=61
     ·exact .inr (.inr ⟨by rw [iA];decide,iA,by omega⟩)
     have cC:¬ mkN (decide (out.length=0)) false c.toNat=true:=fun e=>ak ⟨fun e2=>iA (by rw [e2];rfl),e⟩
     unfold mkN at cC
     rw [if_neg bA] at cC
     by_cases iD:c.toNat=35
     ·rw [if_pos iD] at cC
      exact .inr (.inl ⟨by rw [iD];decide,iD,by simpa using cC⟩)
     rw [if_neg iD] at cC
     exact .inl ⟨by simpa using cC,iD⟩
    have q3:((c.toNat:Int)==127)=false:=zck b2
    obtain ⟨va0,vc0,rfl⟩:=zh H.o.1
    clear hinv au ak fO b2 bA bE ou qR
    rcases jF with ⟨e1,e2⟩ | ⟨e1,e2,e3⟩ | ⟨e1,e2,e3⟩
    ·have q4:((c.toNat:Int)==35)=false:=zck e2
     rw [e1] at HS
     clear e1 e2
     exact zin
    ·have q4:((c.toNat:Int)==35)=true:=zem e2
     have q5:((out.length:Int)==0)=false:=zck e3
     rw [e1] at HS
     clear e1 e2 e3
     exact zin
    have q4:((c.toNat:Int)==35)=false:=zck e3
    have q5:((c.toNat:Int) != 61)=false:=ziq e2
    rw [e1] at HS
    clear e1 e2 e3
    exact zin
   obtain rfl:k=x.size:=by omega
   rw [List.drop_of_length_le (by rw [zl];exact Nat.le_refl _),zlN] at hinv
   rcases ab.2 with ⟨hv,h0⟩ | ⟨g,cap,cur,hv,hB,hg,f9,hm,bQ,A6⟩
   ·have fQ:out=[]:=List.eq_nil_of_length_eq_zero h0
    have mI:n=0:=by omega
    subst fQ mI hv
    have gY:=zfy (P:=prog) (src:=176) (dst:=9) underlying176 underlying5 underlying9 (zjc wr w.heap.size 5)
    have H:=Hy (An ak hinv.symm)
    clear ak ab hinv
    go_wp2
    go_ret2
    exact ⟨by rw [H.o.2];rfl,H.o.1⟩
   have kF:=znG ab
   subst hv
   have A7:=znH kF n hn
   have gY:=zfy (P:=prog) (src:=176) (dst:=9) underlying176 underlying5 underlying9 A7
   have A8:(n:Int)<=(cap:Int):=by omega
   have H:=Hy (An ak hinv.symm)
   clear ak ab hinv kF A7 hg A6 bQ
   go_wp2
   go_ret2
   exact ⟨by rw [H.o.2];rfl,H.o.1⟩
end Go.Proofs.YtijglbolppkefaaGreatDoor
