import Derived.Test.YtofcnebekmjdoaaGreatDoorKad
import Derived.Test.YtofcnebekmjdoaaGreatDoorKal
set_option maxHeartbeats 4000000
set_option maxRecDepth 100000
namespace Go.Proofs.YtofcnebekmjdoaaGreatDoor.Dy
open Go.RowKit Go.Proofs.YtofcnebekmjdoaaGreatDoor.Gn
theorem sym_at (P X Y Q L L':List Rc) (hX:Srt X) (hY:Srt Y) (h1:0<X.length) (h2:0<Y.length) (hL:P++(X++(Y++Q))=L) (hL':P++(sortR (X++Y)++Q)=L') (g N cap:Nat) (a m b:Int) (ha:a=P.length) (hm:m=P.length+X.length) (hb:b=P.length+X.length+Y.length) (w:World)
  (hN:N=L.length) (hN2:N≤1152921504606846976) (hB:Blo w g L):
  Calls Tryz.prog 122 #[.slice (some ⟨g,0,none⟩) N cap,.int .i64 a,.int .i64 m,.int .i64 b,.func (.func 73) #[] #[]] w fun e w'=>e=.returned (.tuple #[])∧Sorts w g L' w':=by
 subst hL hL'
 exact sym_any _ P X Y Q (Nat.le_refl _) hX hY h1 h2 g N cap a m b ha hm hb w hN hN2 hB
structure St1 (L D R:List Rc) (s u:Nat) (Ds:List (List Rc)):Prop where
 flat:Ds.flatten=D
 len:D.length=u
 full:Full s Ds
 same:Same L (D ++R)
theorem St1.push{L D X R':List Rc}{s u:Nat}{Ds:List (List Rc)}(h:St1 L D (X++R') s u Ds) (hX:X.length=s):St1 L (D ++sortR X) R' s (u+s) (Ds ++[sortR X]):=by
 refine ⟨by rw[flatten_snoc,h.flat],by rw[List.length_append,h.len,sort_length,hX],h.full.snoc (by rw[sort_length,hX]) (sort_srt X),?_⟩
 have:= h.same.trans (((Same.refl D).app ((same_sort X).app (Same.refl R'))))
 simpa using this
theorem Same.length_eq {A B:List Rc}(h:Same A B):B.length=A.length:=by
 have e:sortR B=sortR A:=sort_eq (sort_srt B) fun a b=>by rw[sort_filter];exact h a b
 rw[←sort_length B,e,sort_length]
theorem insertion_none (a:Option Addr) (cap:Nat) (w:World):Calls Tryz.prog 121 #[.slice a 0 cap,.int .i64 0,.int .i64 0,.func (.func 73) #[] #[]] w fun e w'=>e=.returned (.tuple #[])∧w'=w:=by
 go_enter Tryz.func121,Tryz.ntmps121
 go_wp2
 go_loopw[8](fun i wr=>i=.int .i64 1∧wr=w) (fun _ _=>0)
 case atStart=>exact ⟨rfl,rfl⟩
 case round=>
  obtain ⟨rfl,rfl⟩:=hrel
  go_wp2
  go_end0
  exact ⟨rfl,rfl⟩
theorem stable_none (a:Option Addr) (cap:Nat) (w:World):Calls Tryz.prog 95 #[.slice a 0 cap,.int .i64 0,.func (.func 73) #[] #[]] w fun e w'=>e=.returned (.tuple #[])∧w'=w:=by
 go_enter Tryz.func95,Tryz.ntmps95
 go_wp2
 go_loopw [7,8](fun i j wr=>i=.int .i64 0∧j=.int .i64 20∧wr=w) (fun _ _ _=>0)
 case atStart=>exact ⟨rfl,rfl,rfl⟩
 case round=>
  obtain ⟨rfl,rfl,rfl⟩:=hrel
  go_wp2_with (go_at_call 121;refine (insertion_none _ _ _).mono ?_;rintro e w' ⟨rfl,rfl⟩)
  rename_i wq
  go_loopw [6](fun i wr=>i=.int .i64 20∧wr=w') (fun _ _=>0)
  case atStart=>exact ⟨rfl,rfl⟩
  case round=>
   obtain ⟨rfl,rfl⟩:=hrel
   go_wp2
   go_end0
   exact ⟨rfl,rfl⟩
theorem stable_any (L:List Rc) (g N cap:Nat) (w:World) (hN:N=L.length) (hN2:N≤1000000000000000) (hB:Blo w g L):
  Calls Tryz.prog 95 #[.slice (some ⟨g,0,none⟩) N cap,.int .i64 N,.func (.func 73) #[] #[]] w fun e w'=>e=.returned (.tuple #[])∧Sorts w g (sortR L) w':=by
 have HN:Hid (N=L.length):=hN
 have hN3:N≤1152921504606846976:=by omega
 clear hN
 go_enter Tryz.func95,Tryz.ntmps95
 go_wp2
 go_loopw[7,8](fun i j wr=>∃(u:Nat) (D R:List Rc) (Ds:List (List Rc)),i=.int .i64 u∧j=.int .i64 ((u:Int)+20)∧u≤N∧Hid (St1 L D R 20 u Ds)∧Below g w wr∧Hid (Blo wr g (D ++R))) (fun i _ _=>N-(intOf i).toNat)
 case atStart=>exact ⟨0,[],L,[],rfl,rfl,Nat.zero_le _,⟨rfl,rfl,full_nil _,Same.refl _⟩,Below.refl _ _,hB⟩
 case round=>
  clear hB
  obtain ⟨u,D,R,Ds,rfl,rfl,hu,hst,hbel,hblo⟩:=hrel
  have hlen:Hid (N=(D ++R).length):=by rw[HN.out];exact hid hst.out.same.length_eq.symm
  have hDR:Hid (D.length=u∧u+R.length=N):=by
   have h1:=hlen.out;have h2:=hst.out.len;rw[List.length_append] at h1;exact hid ⟨h2,by omega⟩
  by_cases hle:u+20≤N
  ·have hle':(u :Int)+20≤N:=by omega
   obtain ⟨X,R',hR,hX⟩:=cut R (n:=20) (by have :=hDR.out;omega)
   have HX:=hid hX
   have hR1:=hid hR
   clear hX hR
   have hst2:Hid (St1 L (D++sortR X) R' 20 (u +20) (Ds ++[sortR X])):=by have :=hst.out;rw[hR1.out] at this;exact this.push HX.out
   have hb1:Hid (Blo wr g (D ++(X++R'))):=by rw[←hR1.out];exact hblo
   have hl1:Hid (N =(D ++(X ++R')).length):=by rw[←hR1.out];exact hlen
   go_wp2_with (go_at_call 121;refine (insertion_at D X R' g N cap _ _ (by have:= hDR.out;omega) (by have:= hDR.out;have :=HX.out;omega) _ hl1.out hN3 hb1.out).mono ?_;rintro e w1 ⟨rfl,hs1⟩)
   go_roundw
   case rel=>
    refine ⟨u+20,D++sortR X,R',Ds++[sortR X],by go_num,by go_num,hle,hst2,hbel.trans hs1.bel,?_⟩
    have :=hs1.blo
    exact hid (by simpa using this)
   case measure=>simp[intOf];omega
  ·have hle':¬((u :Int)+20≤N):=by omega
   have hb1:Hid (Blo wr g (D ++(R ++[]))):=by rw[List.append_nil];exact hblo
   have hl1:Hid (N =(D ++(R ++[])).length):=by rw[List.append_nil];exact hlen
   have hBl:Hid (Blks 20 (Ds ++[sortR R])):=hid (hst.out.full.blks (by rw[sort_length];have :=hDR.out;omega) (sort_srt R))
   have hSm:Hid (Same L (Ds ++[sortR R]).flatten):=by
    rw[flatten_snoc,hst.out.flat];exact hid (hst.out.same.trans ((Same.refl D).app (same_sort R)))
   have hfl:Hid (D ++(sortR R++[])=(Ds ++[sortR R]).flatten):=by rw[flatten_snoc,hst.out.flat,List.append_nil];exact hid rfl
   go_wp2_with (go_at_call 121;refine (insertion_at D R [] g N cap _ _ (by have:= hDR.out;omega) (by have :=hDR.out;omega) _ hl1.out hN3 hb1.out).mono ?_;rintro e w1 ⟨rfl,hs1⟩)
   have hb2:Hid (Blo w1 g (Ds ++[sortR R]).flatten):=by have:= hs1.blo;rw[hfl.out] at this;exact this
   have hbw:Below g w w1:=hbel.trans hs1.bel
   generalize Ds++[sortR R]=B0 at*
   clear hs1 hfl hst hblo hbel hlen hb1 hl1 hDR
   go_loopw[6](fun i wr=>∃(s:Nat) (B:List (List Rc)),i=.int .i64 s∧20≤s∧s≤2*N+20∧Hid (Blks s B)∧Hid (Same L B.flatten)∧Below g w wr∧Hid (Blo wr g B.flatten)) (fun i _=>N-(intOf i).toNat)
   case atStart=>exact ⟨20,B0,rfl,Nat.le_refl _,by omega,hBl,hSm,hbw,hb2⟩
   case round=>
    clear hBl hSm hbw hb2
    obtain ⟨s,B,rfl,hs1,hs2,hBl,hSm,hbel,hblo⟩:=hrel
    have hlen:Hid (N =B.flatten.length):=by rw[HN.out];exact hid hSm.out.length_eq.symm
    by_cases hsn:s<N
    ·have hsn':(s:Int)<N:=by omega
     have hw2:IntKind.i64.wrap (2 *(s :Int))=2*(s :Int):=wrap64 (by omega) (by omega)
     have hw3:IntKind.i64.wrap ((s:Int)*2)=(s :Int)*2:=wrap64 (by omega) (by omega)
     go_wp2_with fail
     generalize wr=W0 at*
     go_loopw[7,8](fun i j wr=>∃(u:Nat) (D:List Rc) (Ds B:List (List Rc)),i=.int .i64 u∧j=.int .i64 ((u :Int)+2*s)∧u≤N∧Hid (St1 L D B.flatten (2 *s) u Ds)∧Hid (Blks s B)∧Below g w wr∧Hid (Blo wr g (D++B.flatten))) (fun i _ _=>N-(intOf i).toNat)
     case atStart=>exact ⟨0,[],[],B,rfl,by go_num,Nat.zero_le _,⟨rfl,rfl,full_nil _,hSm.out⟩,hBl,hbel,hblo⟩
     case round=>
      clear hSm hBl hbel hblo hlen B
      obtain ⟨u,D,Ds,B,rfl,rfl,hu,hst,hBl,hbel,hblo⟩:=hrel
      have hlen:Hid (N =(D ++B.flatten).length):=by rw[HN.out];exact hid hst.out.same.length_eq.symm
      have hDR:Hid (D.length=u∧u+B.flatten.length=N):=by
       have h1:=hlen.out;have h2:=hst.out.len;rw[List.length_append] at h1;exact hid ⟨h2,by omega⟩
      by_cases hle:u+2*s≤N
      ·have hle':(u :Int)+2*s≤N:=by omega
       obtain ⟨X,Y,r,hr,hX,hY,sX,sY,hBr⟩:=hBl.out.two (by omega) (by have :=hDR.out;omega)
       have HX:=hid hX
       have HY:=hid hY
       have HR:=hid hr
       have SX:=hid sX
       have SY:=hid sY
       have HBr:=hid hBr
       clear hX hY hr sX sY hBr
       have hst2:Hid (St1 L (D++sortR (X ++Y)) r.flatten (2 *s) (u +2*s) (Ds ++[sortR (X++Y)])):=by
        have:= hst.out
        rw[HR.out,List.flatten_cons,List.flatten_cons,←List.append_assoc] at this
        exact this.push (by have :=HX.out;have:= HY.out;simp;omega)
       have c1:Hid (D ++(X ++(Y ++r.flatten))=D++B.flatten):=by rw[HR.out,List.flatten_cons,List.flatten_cons];exact hid rfl
       go_wp2_with (go_at_call 122;refine (sym_at D X Y r.flatten _ _ SX.out SY.out (by have :=HX.out;omega) (by have:= HY.out;omega) c1.out rfl g N cap _ _ _ (by have :=hDR.out;omega) (by have :=hDR.out;have:= HX.out;omega) (by have:= hDR.out;have :=HX.out;have:= HY.out;omega) _ hlen.out hN3 hblo.out).mono ?_;rintro e w1 ⟨rfl,hs1⟩)
       go_roundw
       case rel=>
        refine ⟨u+2*s,D++sortR (X ++Y),Ds++[sortR (X ++Y)],r,by go_num,by go_num,hle,hst2,HBr,hbel.trans hs1.bel,?_⟩
        have :=hs1.blo
        exact hid (by simpa using this)
       case measure=>simp[intOf];omega
      ·have hle':¬((u :Int)+2*s≤N):=by omega
       by_cases hms:u+s<N
       ·have hms':(u :Int)+s<N:=by omega
        obtain ⟨X,Y,hr,hX,sX,sY⟩:=hBl.out.last (by omega) (by have :=hDR.out;omega) (by have:= hDR.out;omega)
        have HR:=hid hr
        have HX:=hid hX
        have SX:=hid sX
        have SY:=hid sY
        clear hX hr sX sY
        have hY:Hid (X.length+Y.length=B.flatten.length):=by rw[HR.out];exact hid (by simp)
        have c1:Hid (D ++(X ++(Y ++[]))=D++B.flatten):=by rw[HR.out,List.append_nil];exact hid rfl
        have c2:Hid (D ++(sortR (X++Y)++[])=(Ds ++[sortR (X ++Y)]).flatten):=by rw[flatten_snoc,hst.out.flat,List.append_nil];exact hid rfl
        have hBl2:Hid (Blks (2 *s) (Ds ++[sortR (X ++Y)])):=hid (hst.out.full.blks (by rw[sort_length];have:= hDR.out;have:= hY.out;simp;omega) (sort_srt _))
        have hSm2:Hid (Same L (Ds ++[sortR (X ++Y)]).flatten):=by
         have :=hst.out.same
         rw[flatten_snoc,hst.out.flat];rw[HR.out] at this
         exact hid (this.trans ((Same.refl D).app (same_sort _)))
        go_wp2_with (go_at_call 122;refine (sym_at D X Y [] _ _ SX.out SY.out (by have:= HX.out;omega) (by have :=HX.out;have:= hY.out;have:= hDR.out;omega) c1.out c2.out g N cap _ _ _ (by have :=hDR.out;omega) (by have :=hDR.out;have:= HX.out;omega) (by have:= hDR.out;have :=HX.out;have :=hY.out;omega) _ hlen.out hN3 hblo.out).mono ?_;rintro e w1 ⟨rfl,hs1⟩)
        go_roundw
        case rel=>exact ⟨2*s,Ds++[sortR (X ++Y)],by go_num,by omega,by omega,hBl2,hSm2,hbel.trans hs1.bel,hs1.blo⟩
        case measure=>simp[intOf];omega
       ·have hms':¬((u :Int)+s<N):=by omega
        have c2:Hid (D ++B.flatten=(Ds ++[B.flatten]).flatten):=by rw[flatten_snoc,hst.out.flat];exact hid rfl
        have hBl2:Hid (Blks (2 *s) (Ds ++[B.flatten])):=hid (hst.out.full.blks (by have :=hDR.out;omega) (hBl.out.small (by omega) (by have:= hDR.out;omega)))
        have hSm2:Hid (Same L (Ds ++[B.flatten]).flatten):=by rw[←c2.out];exact hid hst.out.same
        have hb2:Hid (Blo wr g (Ds ++[B.flatten]).flatten):=by rw[←c2.out];exact hblo
        go_wp2_with fail
        go_roundw
        case rel=>exact ⟨2*s,Ds++[B.flatten],by go_num,by omega,by omega,hBl2,hSm2,hbel,hb2⟩
        case measure=>simp[intOf];omega
    ·have hsn':¬((s:Int)<N):=by omega
     have hE:Hid (Blo wr g (sortR L)):=by
      rw[←hSm.out.sorted (hBl.out.small (by omega) (by have:= hlen.out;omega))];exact hblo
     go_wp2_with fail
     go_end0
     exact ⟨rfl,hbel,hE.out⟩
theorem sortStable_none (a:Option Addr) (cap:Nat) (w:World):Calls Tryz.prog 74 #[.slice a 0 cap,.func (.func 73) #[] #[]] w fun e w'=>e=.returned (.tuple #[])∧w'=w:=by
 go_enter Tryz.func74,Tryz.ntmps74
 go_wp2_with (go_at_call 95;refine (stable_none _ _ _).mono ?_;rintro e w' ⟨rfl,rfl⟩)
 go_end0
 exact ⟨rfl,rfl⟩
theorem sortStable_any (L:List Rc) (g N cap:Nat) (w:World) (hN:N=L.length) (hN2:N≤1000000000000000) (hB:Blo w g L):
  Calls Tryz.prog 74 #[.slice (some ⟨g,0,none⟩) N cap,.func (.func 73) #[] #[]] w fun e w'=>e=.returned (.tuple #[])∧Sorts w g (sortR L) w':=by
 have HN:=hid hN
 clear hN
 go_enter Tryz.func74,Tryz.ntmps74
 go_wp2_with (go_at_call 95;refine (stable_any L g N cap _ HN.out hN2 hB).mono ?_;rintro e w' ⟨rfl,hs⟩)
 go_end0
 exact ⟨rfl,hs⟩
def AnswersR (w:World) (L:List Rc) (e:Ending) (w':World):Prop:=∃a cap,e=.returned (.slice a L.length cap)∧Lies kR w' a cap L∧Past w.heap.size a∧(∀ ad,a=some ad→ad.block<w'.heap.size)∧Below w.heap.size w w'
theorem sorted_any (L:List Rc) (v:Value) (w:World) (h:At kR w v L) (hN:L.length*32≤140737488355328):
  Calls Tryz.prog 35 #[v] w (AnswersR w (sortR L)):=by
 have hm:=h.len
 obtain ⟨a,c,rfl,hl⟩:=h
 go_enter Tryz.func35,Tryz.ntmps35
 go_wp2_with (at_builtin;refine wpList_append elemR _ rfl _ _ rfl w.heap.size _ [] rfl .nil a L.length c L rfl rfl hl ?c3 ?c4 ?c5 ?_)
 case c3=>simpa using hm
 case c4=>simpa using hN
 case c5=>exact Nat.le_refl _
 intro v' w3 hrow hgrow hat hown
 have hb3:Below w.heap.size w w3:=below_grown (L:=[]) (Below.refl _ _) hgrow (.nil:Row kR 79 w w.heap.size (.slice none 0 0) []) (Nat.le_refl _) (Nat.le_refl _)
 by_cases h0:L=[]
 ·subst h0
  obtain ⟨a3,c3,rfl,hl3,hp3,hlt3⟩:=hrow.lies
  clear hown hrow hgrow hat
  have hl4:Hid (Lies kR w3 a3 c3 (sortR [])):=hid hl3
  clear hl3
  dsimp only[List.length_nil]
  go_wp2_with (go_at_call 74;refine (sortStable_none _ _ _).mono ?_;rintro e w' ⟨rfl,rfl⟩)
  go_ret
  exact ⟨a3,c3,rfl,hl4.out,hp3,hlt3,hb3⟩
 ·obtain ⟨g,cap,rfl,hcap,hg,hB⟩:=blo_of_owns (hown h0) h0
  have HB:=hid hB
  have hN2:L.length≤1000000000000000:=by omega
  clear hown hrow hgrow hat hB
  go_wp2_with (go_at_call 74;refine (sortStable_any L g L.length cap _ rfl hN2 HB.out).mono ?_;rintro e w4 ⟨rfl,hs⟩)
  go_ret
  exact ⟨some ⟨g,0,none⟩,cap,by rw[sort_length];rfl,hs.blo.lies cap,(fun _ h=>by cases h;exact hg),(fun _ h=>by cases h;exact hs.blo.lt),hb3.trans (hs.bel.mono hg)⟩
theorem wr_ways (r:Rc):Hid (wrongR r=1)∧(r.k <1∨(1≤r.k∧8<r.k))∨(1 ≤r.k∧r.k≤8)∧(Hid (wrongR r=3)∧(r.sh<0∨(0 ≤r.sh∧8≤r.sh)∨(0 ≤r.sh∧r.sh<8∧r.au<0)∨(0 ≤r.sh∧r.sh<8∧0≤r.au∧30≤r.au)∨(0 ≤r.sh∧r.sh<8∧0≤r.au∧r.au<30∧r.m<1)∨(0≤r.sh∧r.sh<8∧0≤r.au∧r.au<30∧1≤r.m∧1000000<r.m))∨
  Hid (wrongR r=0)∧0≤r.sh∧r.sh<8∧0≤r.au∧r.au<30∧1≤r.m∧r.m≤1000000):=by
 unfold wrongR
 by_cases h1:noKind r
 ·refine Or.inl ⟨hid (if_pos h1),?_⟩
  unfold noKind at h1;omega
 ·refine Or.inr ⟨by unfold noKind at h1;omega,?_⟩
  rw[if_neg h1]
  by_cases h2:far r
  ·refine Or.inl ⟨hid (if_pos h2),?_⟩
   unfold far at h2;omega
  ·refine Or.inr ⟨hid (if_neg h2),?_⟩
   unfold far at h2;omega
theorem wrongRecord_any (r:Rc) (w:World):Calls Tryz.prog 68 #[rv r] w fun e w'=>e=.returned (.int .i64 (wrongR r))∧Below w.heap.size w w':=by
 have W:=wr_ways r
 have b0:Below w.heap.size w (w.alloc (rob r)):=below_alloc _ _
 unfold rob at b0
 unfold rv
 generalize wrongR r=u at*
 obtain ⟨sh,au,k,m⟩:=r
 dsimp only at W b0⊢
 rcases W with ⟨hu,h|⟨h,h1⟩⟩|⟨⟨k1,k2⟩,⟨hu,h|⟨h,h1⟩|⟨h,h1,h2⟩|⟨h,h1,h2,h3⟩|⟨h,h1,h2,h3,h4⟩|⟨h,h1,h2,h3,h4,h5⟩⟩|⟨hu,h,h1,h2,h3,h4,h5⟩⟩
 all_goals
  go_enter Tryz.func68,Tryz.ntmps68
  go_wp2
  go_ret
  exact ⟨ret_int hu.out.symm,b0⟩
def fv (f:Int×Int):Value:=.agg #[.int .i64 f.1,.int .i64 f.2]
theorem res_cells {w W:World}{a b:Int}{t:TypeId}(h:W.heap[w.heap.size]?=some (.cells #[.int .i64 a,.int .i64 b] t)):
  W.cell? ⟨w.heap.size,0,none⟩=some (.int .i64 a)∧W.cell? ⟨w.heap.size,1,none⟩=some (.int .i64 b)∧W.frozen? ⟨w.heap.size,0,none⟩=false∧W.frozen? ⟨w.heap.size,1,none⟩=false:=by
 refine ⟨?_,?_,?_,?_⟩<;>simp[World.cell?,World.frozen?,h]
theorem wrong_any (L:List Rc) (v:Value) (w:World) (h:At kR w v L):
  Calls Tryz.prog 31 #[v] w fun e w'=>e=.returned (fv (wrongL L))∧Below w.heap.size w w':=by
 have hm:=h.len
 unfold maxLen at hm
 obtain ⟨a,c,rfl,hl⟩:=h
 unfold fv
 by_cases h100:100<L.length
 ·have HG:=hid (wrong_many h100)
  have h100':(100:Int)<L.length:=by omega
  go_enter Tryz.func31,Tryz.ntmps31
  go_wp2
  refine bodyPost_ret (v:=.agg #[.int .i64 5,.int .i64 0]) (by simp[results,Tryz.results31,go_sem]) rfl ⟨?_,?_⟩
  ·rw[HG.out]
  ·repeat (first|exact Below.refl _ _|refine Below.setCell ?_ (by simp) _|refine bel_alloc ?_ _)
 have h100':(L.length :Int)≤100:=by omega
 have hg0:=good_zero (l:=L) (by omega)
 have b0:Below w.heap.size w (w.alloc (.cells #[.int .i64 0,.int .i64 0] 47)):=below_alloc _ _
 have hR0:(w.alloc (.cells #[.int .i64 0,.int .i64 0] 47)).heap[w.heap.size]?=some (.cells #[.int .i64 0,.int .i64 0] 47):=heap_alloc_at _ _ _ rfl
 go_enter Tryz.func31,Tryz.ntmps31
 go_wp2
 generalize w.alloc (.cells #[.int .i64 0,.int .i64 0] 47)=W0 at*
 go_loopw[12] (fun i wr=>∃k:Nat,k≤L.length∧i=.int .i64 k∧Hid (Good L k)∧Below W0.heap.size W0 wr) (fun i _=>L.length-(intOf i).toNat)
 case atStart=>exact ⟨0,Nat.zero_le _,rfl,hg0,Below.refl _ _⟩
 case round=>
  obtain ⟨k,hk,rfl,hg,hb⟩:=hrel
  generalize wr=W at*
  have hz:=lt_of_block hR0
  have hRW:=(hb.block _ hz).trans hR0
  have hbw:Below w.heap.size w W:=b0.trans (hb.mono b0.size)
  by_cases hlt:k<L.length
  ·have hlt':(k:Int)<L.length:=by omega
   obtain ⟨b,off,rfl,hbl,e1,e2,e3,e4⟩:=rc_cells (hl.below hbw) hlt
   have G1:=hid fun h=>hg.out.bad hlt h
   have G2:=hid fun h=>hg.out.next hlt h
   generalize L.getD k zR=r at*
   have hWr:∀X:World,Calls Tryz.prog 68 #[rv r] X fun e w'=>e=.returned (.int .i64 (wrongR r))∧Below X.heap.size X w':=fun X=>wrongRecord_any r X
   unfold rv at hWr
   have hb2:∀o,Below W0.heap.size W0 (W.alloc o):=fun o=>hb.alloc hb.size o
   have hbw2:∀o,Below w.heap.size w (W.alloc o):=fun o=>bel_alloc hbw o
   by_cases h0:wrongR r=0
   ·have h0':(wrongR r !=0)=false:=by simpa using h0
    have HG:=hid (G2.out h0)
    clear G1 G2 h0
    generalize wrongR r=u at*
    go_wp2_with (go_at_call 68;refine (hWr _).mono ?_;rintro e w1 ⟨rfl,hb1⟩)
    go_roundw
    case rel=>exact ⟨k+1,by omega,by go_num,HG,(hb2 _).trans (hb1.mono (by have:= hb.size;simp;omega))⟩
    case measure=>simp[intOf];omega
   ·have h0':(wrongR r !=0)=true:=by simpa using h0
    have HG:=hid (G1.out h0)
    clear G1 G2 h0
    generalize wrongR r=u at*
    have key:∀w1:World,Below (W.alloc (.cells #[.int .i64 r.sh,.int .i64 r.au,.int .i64 r.k,.int .i64 r.m] 79)).heap.size (W.alloc (.cells #[.int .i64 r.sh,.int .i64 r.au,.int .i64 r.k,.int .i64 r.m] 79)) w1→
      w1.heap[w.heap.size]?=some (.cells #[.int .i64 0,.int .i64 0] 47)∧Below w.heap.size w w1:=fun w1 hb1=>by
     have hz2:w.heap.size<W.heap.size:=Nat.lt_of_lt_of_le hz hb.size
     exact ⟨(hb1.block _ (by simp;omega)).trans ((heap_alloc_old _ _ hz2).trans hRW),(hbw2 _).trans (hb1.mono (by simp;omega))⟩
    go_upto_region 8 with (go_at_call 68;refine (hWr _).mono ?_;rintro e w1 ⟨rfl,hb1⟩)
    obtain ⟨k1,k2⟩:=key w1 hb1
    obtain ⟨r0,r1,f0,f1⟩:=res_cells k1
    go_wp2_with fail
    refine bodyPost_ret (v:=.agg #[.int .i64 u,.int .i64 k]) (by simp[results,Tryz.results31,go_sem,r0,r1]) rfl ⟨?_,(k2.setCell (Nat.le_refl _) _).setCell (Nat.le_refl _) _⟩
    rw[HG.out]
  ·have HG:=hid (hg.out.done (by omega))
   obtain ⟨r0,r1,f0,f1⟩:=res_cells hRW
   go_wp2
   refine bodyPost_ret (v:=.agg #[.int .i64 0,.int .i64 0]) (by simp[results,Tryz.results31,go_sem,r0,r1]) rfl ⟨?_,(hbw.setCell (Nat.le_refl _) _).setCell (Nat.le_refl _) _⟩
   rw[HG.out]
theorem each_small {L:List Rc}(h:Right L){k:Nat}(hk:k<L.length):1≤(L.getD k zR).m∧(L.getD k zR).m≤1000000:=by
 have :=(h.each _ (getD_mem hk)).2
 unfold far at this;omega
theorem total_any (L:List Rc) (v:Value) (w:World) (h:At kR w v L) (hR:Right L):
  Calls Tryz.prog 70 #[v] w fun e w'=>e=.returned (.int .i64 (total L))∧Below w.heap.size w w':=by
 have hm:=h.len
 unfold maxLen at hm
 obtain ⟨a,c,rfl,hl⟩:=h
 go_enter Tryz.func70,Tryz.ntmps70
 go_wp2
 go_loopw[8,3](fun i s wr=>∃(k:Nat) (x:Int),k≤L.length∧i=.int .i64 k∧s=.int .i64 x∧0≤x∧x≤1000000*k∧Hid (x =total (L.take k))∧Below w.heap.size w wr) (fun i _ _=>L.length-(intOf i).toNat)
 case atStart=>exact ⟨0,0,Nat.zero_le _,rfl,rfl,by omega,by omega,rfl,Below.refl _ _⟩
 case round=>
  obtain ⟨k,x,hk,rfl,rfl,hx0,hx1,hx,hb⟩:=hrel
  by_cases hlt:k<L.length
  ·have hlt':(k :Int)<L.length:=by omega
   obtain ⟨b,off,rfl,hbl,e1,e2,e3,e4⟩:=rc_cells (hl.below hb) hlt
   have hs:=each_small hR hlt
   have hst:total (L.take (k+1))=total (L.take k)+(L.getD k zR).m:=sumBy_step _ hlt
   have hfew:=hR.few
   rw[←hx.out] at hst
   generalize L.getD k zR=r at*
   obtain ⟨sh,au,kk,m⟩:=r
   dsimp only at e1 e2 e3 e4 hs hst
   have Hst:=hid hst
   clear hst
   go_wp2_with fail
   go_roundw
   case rel=>exact ⟨k+1,x+m,by omega,by go_num,by go_num,by omega,by omega,Hst.out.symm,by repeat (first|exact hb|refine Below.drew ?_|refine bel_alloc ?_ _)⟩
   case measure=>simp[intOf];omega
  ·have hE:Hid (x =total L):=by rw[hx.out,List.take_of_length_le (by omega)];exact hid rfl
   go_wp2
   go_ret
   exact ⟨ret_int hE.out,hb⟩
theorem infoB:(Tryz.prog.info? 5).map (fun i=>(i.zero,i.size,i.bytes))=some (some (.int .u8 0),1,1):=by kernel_rfl
theorem elemB:Elem Tryz.prog kB 82 5 1:=by
 obtain ⟨i,h1,h2,h3,h4⟩:=info_parts infoB
 exact ⟨Tryz.underlying82,i,_,h1,h2,h3,h4,rfl⟩
def dig (n:Int):Nat→Int
 |0=>n%256
 |1=>n/256%256
 |2=>n/65536%256
 |3=>n/16777216%256
 |_=>0
def digs (n:Int):Nat→List Int
 |0=>[]
 |k+1=>dig n k::digs n k
theorem digs_length (n:Int):∀k,(digs n k).length=k
 |0=>rfl
 |k+1=>by simp[digs,digs_length n k]
theorem gby_trans {w w1 w2:World}{r r':Option Nat}(h:w.grownBy w1 r) (h':w1.grownBy w2 r') (hr:∀k,r'=some k→r=some k∨w.heap.size≤k):w.grownBy w2 r:=
 ⟨h'.os.trans h.os,h'.tape.trans h.tape,h'.output.trans h.output,Nat.le_trans h.size h'.size,fun k hk hn=>(h'.block k (Nat.lt_of_lt_of_le hk h.size) (fun h=>by
  rcases hr k h.symm with h1|h1
  ·exact hn h1.symm
  ·omega)).trans (h.block k hk hn)⟩
theorem gby_alloc (w:World) (o:Obj) (r:Option Nat):w.grownBy (w.alloc o) r:=
 ⟨rfl,rfl,rfl,by simp,fun k hk _=>heap_alloc_old _ _ hk⟩
def AnswersW (w:World) (base:Nat) (v:Value) (B:List Int) (e:Ending) (w':World):Prop:=
 ∃v',e=.returned v'∧Row kB 5 w' base v' B∧w.grownBy w' v.ownBlock∧∀k,v'.ownBlock=some k→v.ownBlock=some k∨w.heap.size≤k
theorem write_any (B:List Int) (n:Int) (s:Nat) (base:Nat) (v:Value) (w:World) (h:Row kB 5 w base v B) (hs:s≤4) (hB:B.length≤1000000) (hbase:base≤w.heap.size):
    Calls Tryz.prog 164 #[v,.int .i64 n,.int .i64 s] w (AnswersW w base v (B ++digs n s)):=by
  go_enter Tryz.func164,Tryz.ntmps164
  go_wp2
  go_loopw[0,7](fun u i wr=>∃(k:Nat) (C:List Int),k≤s∧i=.int .i64 ((k:Int)-1)∧Hid (C ++digs n k=B++digs n s)∧Row kB 5 wr base u C∧C.length≤1000000+4-k∧w.grownBy wr v.ownBlock∧∀k,u.ownBlock=some k→v.ownBlock=some k∨w.heap.size≤k) (fun _ i _=>((intOf i)+1).toNat)
  case atStart=>exact ⟨s,B,Nat.le_refl _,by go_num,rfl,h,by omega,World.grownBy.refl _ _,fun k hk=>Or.inl hk⟩
  case round=>
    obtain ⟨k,C,hk,rfl,hC,hrow,hCl,hg,hat⟩:=hrel
    cases k with
    |zero=>
      have hE:Hid (C=B++digs n s):=by have :=hC.out;simp[digs] at this;exact this
      go_wp2
      go_ret
      exact ⟨_,rfl,by rw[←hE.out];exact hrow,hg,hat⟩
    |succ k=>
      have hE:Hid ((C++[dig n k])++digs n k=B++digs n s):=by have :=hC.out;simp[digs] at this;exact hid (by simpa using this)
      obtain rfl|rfl|rfl|rfl:k=0∨k=1∨k=2∨k=3:=by omega
      all_goals
        go_wp2_with (first
          |(at_builtin;refine wpList_append elemB _ rfl _ _ rfl base _ C rfl (hrow.alloc _) (some ⟨wr.heap.size,0,none⟩) 1 1 [dig n 0] rfl rfl (lies_one (heap_alloc_at _ _ _ rfl) rfl 1) ?c3 ?c4 ?c5 ?_)
          |(at_builtin;refine wpList_append elemB _ rfl _ _ rfl base _ C rfl (hrow.alloc _) (some ⟨wr.heap.size,0,none⟩) 1 1 [dig n 1] rfl rfl (lies_one (heap_alloc_at _ _ _ rfl) rfl 1) ?c3 ?c4 ?c5 ?_)
          |(at_builtin;refine wpList_append elemB _ rfl _ _ rfl base _ C rfl (hrow.alloc _) (some ⟨wr.heap.size,0,none⟩) 1 1 [dig n 2] rfl rfl (lies_one (heap_alloc_at _ _ _ rfl) rfl 1) ?c3 ?c4 ?c5 ?_)
          |(at_builtin;refine wpList_append elemB _ rfl _ _ rfl base _ C rfl (hrow.alloc _) (some ⟨wr.heap.size,0,none⟩) 1 1 [dig n 3] rfl rfl (lies_one (heap_alloc_at _ _ _ rfl) rfl 1) ?c3 ?c4 ?c5 ?_))
        case c3=>simp[maxLen];omega
        case c4=>simp;omega
        case c5=>have :=hg.size;simp;omega
        intro v2 w2 hrow2 hg2 hat2 _
        have hg3:w.grownBy w2 v.ownBlock:=gby_trans (gby_trans hg (gby_alloc _ _ none) (fun k h=>by cases h)) hg2 hat
        have hat3:∀k,v2.ownBlock=some k→v.ownBlock=some k∨w.heap.size≤k:=fun k hk=>by
          rcases hat2 k hk with h1|h1
          · exact hat k h1
          · exact Or.inr (by have:= hg.size;have h2:(wr.alloc (.cells #[.int .u8 0] 5)).heap.size=wr.heap.size+1:=by simp
                             try simp at h1
                             omega)
        clear hg2 hat2 hg hat hrow hC
        go_wp2_with fail
        go_roundw
        case rel=>exact ⟨_,_,by omega,by go_num,hE,hrow2,by simp;omega,hg3,hat3⟩
        case measure=>simp[intOf]
def AtC {α:Type}(K:Kind α) (W:World) (v:Value) (L:List α):Prop:=∃a cap,v=.slice a L.length cap∧Lies K W a cap L∧L.length≤cap
theorem AtC.at {α:Type}{K:Kind α}{W:World}{v:Value}{L:List α}(h:AtC K W v L):At K W v L:=by
 obtain ⟨a,cap,rfl,hl,-⟩:=h
 exact ⟨a,cap,rfl,hl⟩
end Go.Proofs.YtofcnebekmjdoaaGreatDoor.Dy
