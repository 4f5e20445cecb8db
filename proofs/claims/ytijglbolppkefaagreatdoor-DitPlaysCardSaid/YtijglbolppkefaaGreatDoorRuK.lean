/- The document's Norm, Equal and. -/
import Derived.Test.YtijglbolppkefaaGreatDoorMRuB
import Derived.Test.YtijglbolppkefaaGreatDoorDrGH
set_option linter.unusedVariables false
set_option linter.unusedSimpArgs false
set_option maxHeartbeats 25600000
set_option maxRecDepth 100000
namespace Go.Proofs.YtijglbolppkefaaGreatDoor
open Go.Proofs.Tryz
open Go Go.RowKit Go.Proofs.BerK Go.Proofs.MemK Go.Proofs.UtfK
theorem zkf {p:Prop} (h:p:=by
 go_enter func118,ntmps118
 go_wp2_with fail
 refine (HB.o _).mono ?_
 rintro e w2 ⟨rfl,ak⟩
 have B2:=Hy ak
 clear ak
 go_wp2
 go_ret2
 exact zcd HR.o B2.o):p:=h
theorem zp6 {p:Prop} (h:p:=by
 have HR:=Hy hR
 clear hR
 go_enter func125,ntmps125
 go_wp2_with fail
 refine (H1.o _).mono ?_
 rintro e w1 ⟨rfl,au⟩
 have B1:=Hy au
 clear au
 go_wp2_with fail
 refine (H2.o _).mono ?_
 rintro e w2 ⟨rfl,ak⟩
 have B2:=Hy (B1.o.trans (ak.mono B1.o.size))
 clear ak
 go_wp2
 go_ret
 exact zhz HR.o B2.o):p:=h
theorem zp7 {p:Prop} (h:p:=by
 clear h0 HR
 go_enter func118,ntmps118
 go_wp2_with fail
 refine (HB.o _).mono ?_
 rintro e w2 ⟨rfl,ak⟩
 have B2:=Hy ak
 clear ak
 go_wp2
 go_ret2
 exact zcd gG.o B2.o):p:=h
theorem zqf {p:Prop} (h:p:=by
 go_enter func118,ntmps118
 go_wp2
 go_ret2
 exact zcd (a:=[]) HR.o (Br _)):p:=h
theorem zkg (r:Int) (s:Bs) (w:World):Calls prog 118 #[.int .i64 r,.string ⟨s.toArray⟩] w (zkb (ruN r s) w):=by
 by_cases hl:4096<s.length
 ·have HR:=Hy (zpR (r:=r) hl)
  have q:(4096:Int)<(s.length:Int):=by omega
  clear hl
  exact zqf
 have q:¬ (4096:Int)<(s.length:Int):=by omega
 by_cases h1:r=1
 ·subst h1
  have HR:=Hy (zpS hl)
  have HB:=Hy (fun w=>zoo ⟨s.toArray⟩ (by show s.length<=_;omega) w)
  change Hd (∀ w,Calls prog _ _ w (zG (zah s) w)) at HB
  obtain ⟨F,hF⟩:=Ex (zah s)
  rw [hF] at HB HR
  clear hl hF
  by_cases h0:F=[]
  ·subst h0
   exact zkf
  have q0:=zhy h0
  have gG:=Hy (show ruN 1 s=(F,true) by rw [HR.o,q0];rfl)
  exact zp7
 by_cases h2:r=2
 ·subst h2
  have HR:=Hy (zpT hl)
  have HB:Hd (∀ w,Calls prog 152 #[.string ⟨s.toArray⟩] w (zG (blL s) w)):=Hy (fun w=>(zon ⟨s.toArray⟩ (by show s.length<=_;omega) w).mono fun _ _ h=>⟨h.1,by rw [h.2];exact Br _⟩)
  obtain ⟨F,hF⟩:=Ex (blL s)
  rw [hF] at HB HR
  clear hl hF h1
  by_cases h0:F=[]
  ·subst h0
   exact zkf
  have q0:=zhy h0
  have gG:=Hy (show ruN 2 s=(F,true) by rw [HR.o,q0];rfl)
  exact zp7
 by_cases h3:r=3
 ·subst h3
  have HR:=Hy (zpU hl)
  have HB:Hd (∀ w,Calls prog 153 #[.string ⟨s.toArray⟩] w (zgF s w)):=Hy (fun w=>(zzU ⟨s.toArray⟩ (by show s.length<=_;omega) w).mono fun _ _ h=>⟨h.1,by rw [h.2];exact Br _⟩)
  clear hl h1 h2
  exact zkf
 by_cases h4:r=4
 ·subst h4
  have HR:=Hy (zpV hl)
  clear hl h1 h2 h3
  go_enter func118,ntmps118
  go_wp2
  go_ret2
  exact zcd HR.o (Br _)
 by_cases h5:r=5
 ·subst h5
  have HR:=Hy (zpW hl)
  have HB:=Hy (zl6 ⟨s.toArray⟩ w)
  change Hd (Calls prog _ _ w (zdo (noD s) w)) at HB
  obtain ⟨P,hP⟩:=Ex (noD s)
  rw [hP] at HB HR
  obtain ⟨X,n⟩:=P
  clear hl h1 h2 h3 h4 hP
  by_cases hn:n=0
  ·subst hn
   go_enter func118,ntmps118
   go_wp2_with fail
   refine HB.o.mono ?_
   rintro e w2 ⟨rfl,ak⟩
   have B2:=Hy ak
   clear ak
   go_wp2
   go_ret2
   exact zcd HR.o B2.o
  have q0:((n:Int)==0)=false:=by rw [beq_eq_false_iff_ne];omega
  have gG:=Hy (show ruN 5 s=(X,false) by rw [HR.o];simp [hn])
  clear hn HR
  go_enter func118,ntmps118
  go_wp2_with fail
  refine HB.o.mono ?_
  rintro e w2 ⟨rfl,ak⟩
  have B2:=Hy ak
  clear ak
  go_wp2
  go_ret2
  exact zcd gG.o B2.o
 have HR:=Hy (zpX (s:=s) h1 h2 h3 h4 h5)
 have g1:(r==1)=false:=by simpa using h1
 have g2:(r==2)=false:=by simpa using h2
 have g3:(r==3)=false:=by simpa using h3
 have g4:(r==4)=false:=by simpa using h4
 have g5:(r==5)=false:=by simpa using h5
 clear hl h1 h2 h3 h4 h5
 exact zqf
theorem zAn (b:Bool) (w:World):Calls prog 157 #[.bool b] w (zcE (tv b) w):=by
 cases b
 all_goals
  go_enter func157,ntmps157
  go_wp2
  go_ret
  exact zpY (by rfl)
theorem zp8 (r:Int) (a b:Bs) (w:World):Calls prog 125 #[.int .i64 r,.string ⟨a.toArray⟩,.string ⟨b.toArray⟩] w (zfR (eqP (ruN r a) (ruN r b)) w):=by
 have H1:=Hy (fun w=>zkg r a w)
 have H2:=Hy (fun w=>zkg r b w)
 have HT:=Hy zAn
 obtain ⟨p,hp⟩:=Ex (ruN r a)
 obtain ⟨q,hq⟩:=Ex (ruN r b)
 rw [hp] at H1 ⊢
 rw [hq] at H2 ⊢
 obtain ⟨x,b1⟩:=p
 obtain ⟨y,b2⟩:=q
 clear hp hq
 have hw:(b1=false/\eqP (x,b1) (y,b2)=2)\/(b1=true/\b2=false/\eqP (x,b1) (y,b2)=2)\/(b1=true/\b2=true/\eqP (x,b1) (y,b2)=tv (x==y)):=by
  cases b1 <;> cases b2 <;> simp [eqP]
 rcases hw with ⟨rfl,hR⟩ | ⟨rfl,rfl,hR⟩ | ⟨rfl,rfl,hR⟩
 ·exact zp6
 ·exact zp6
 have HR:=Hy hR
 clear hR
 go_enter func125,ntmps125
 go_wp2_with fail
 refine (H1.o _).mono ?_
 rintro e w1 ⟨rfl,au⟩
 have B1:=Hy au
 clear au
 go_wp2_with fail
 refine (H2.o _).mono ?_
 rintro e w2 ⟨rfl,ak⟩
 have B2:=Hy (B1.o.trans (ak.mono B1.o.size))
 clear ak
 go_wp2_with fail
 refine (HT.o _ _).mono ?_
 rintro e w3 ⟨rfl,hw⟩
 obtain rfl:=hw.symm
 go_wp2
 go_ret
 exact zhz HR.o B2.o
end Go.Proofs.YtijglbolppkefaaGreatDoor
