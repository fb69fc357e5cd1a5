import Derived.Test.YtigiogjefnkpdaaGreatDoorKan
set_option maxHeartbeats 4000000
set_option maxRecDepth 100000
open Go.Proofs.Tryz
namespace Go.Proofs.YtigiogjefnkpdaaGreatDoor.St
open RowKit Gn
theorem yB(s:Sd)(A v2:Value)(t:Ad)(w:World)(h1:At kI w A s.used)(h2:At kA w v2 s.bL)(i:¬(dT s=0∧s.bL.length≠20∧Fits t s.used.length)):Calls prog 48 #[dv s.cap A v2,av t] w (kv w (ep s t)):=by
 have i:=aW i;have p:=Ck w s.cap A v2 t;have C:=h1;have B:=h2;obtain⟨Q,c1,rfl,N⟩:=h1;obtain⟨P,c2,rfl,M⟩:=h2;unfold jw rh at p;unfold dv av;go_enter func48,ntmps48;go_upto_region 1 with fail;generalize((w.alloc _).alloc _).alloc _=S at*;obtain⟨F,E,D⟩:=bG p.box;go_wp2_with fail;refine(cr s _ _ _ (C.below p.bel) (B.below p.bel)).mono ?_;rintro e z ⟨rfl,q⟩;have d:=p.on q;clear F E D p q;by_cases l:dT s=0
 case neg=>
  have c:=aW (zT (a:=t) l);have L:(dT s !=0)=true:=by simpa using l
  clear l;generalize dT s=r at*;obtain⟨h,g,f⟩:=bG d.res;obtain⟨K,J,I⟩:=fA d.res;go_wp2;refine aA (v:=.tuple #[.agg #[.int .i64 0,.slice none 0 0,.slice none 0 0],.int .i64 r]) (by simp[results,results48,go_sem,h,g,f];try rfl) rfl (iF c.out ?_);repeat refine aR ?_ (by simp<;>omega) _
  exact d.bel
 case pos=>
  have R:=rG l;have u8:=R.u8;have DL:=R.DL;have j:=aW l;rw[l];clear l;by_cases b:s.bL.length=20
  ·have c:=aW (sW (a:=t) j.out b);have u:(20 :Int)≤s.bL.length:=by omega
   obtain⟨F,E,D⟩:=bG d.box;obtain⟨h,g,f⟩:=bG d.res;obtain⟨K,J,I⟩:=fA d.res;clear b;go_wp2;refine aA (v:=.tuple #[.agg #[.int .i64 0,.slice none 0 0,.slice none 0 0],.int .i64 5]) (by simp[results,results48,go_sem,h,g,f];try rfl) rfl (iF c.out ?_);repeat refine aR ?_ (by simp<;>omega) _
   exact d.bel
  have u:(s.bL.length :Int)<20:=by omega
  obtain⟨F,E,D⟩:=bG d.box;obtain⟨W,V,U,T⟩:=gv d.tb;obtain⟨h,g,f⟩:=bG d.res;obtain⟨K,J,I⟩:=fA d.res;rcases vj t s.used.length with⟨k,H⟩|⟨k,m,H⟩|⟨k,m,o,H⟩|⟨k,m,o,x,H⟩|⟨k,m,o,x,y,H⟩|⟨k,m,o,x,y,n,H⟩|⟨k,m,o,x,y,n,G,H⟩|⟨k,m,o,x,y,n,G,O,H⟩|⟨k,m,o,x,y,n,G,O,H⟩
  ·have c:=aW (gT j.out b H.out);clear H;go_wp2;refine aA (v:=.tuple #[.agg #[.int .i64 0,.slice none 0 0,.slice none 0 0],.int .i64 3]) (by simp[results,results48,go_sem,h,g,f];try rfl) rfl (iF c.out ?_);repeat refine aR ?_ (by simp<;>omega) _
   exact d.bel
  ·have c:=aW (gT j.out b H.out);clear H;go_wp2;refine aA (v:=.tuple #[.agg #[.int .i64 0,.slice none 0 0,.slice none 0 0],.int .i64 3]) (by simp[results,results48,go_sem,h,g,f];try rfl) rfl (iF c.out ?_);repeat refine aR ?_ (by simp<;>omega) _
   exact d.bel
  ·have c:=aW (gT j.out b H.out);clear H;go_wp2;refine aA (v:=.tuple #[.agg #[.int .i64 0,.slice none 0 0,.slice none 0 0],.int .i64 3]) (by simp[results,results48,go_sem,h,g,f];try rfl) rfl (iF c.out ?_);repeat refine aR ?_ (by simp<;>omega) _
   exact d.bel
  ·have c:=aW (gT j.out b H.out);clear H;go_wp2;refine aA (v:=.tuple #[.agg #[.int .i64 0,.slice none 0 0,.slice none 0 0],.int .i64 3]) (by simp[results,results48,go_sem,h,g,f];try rfl) rfl (iF c.out ?_);repeat refine aR ?_ (by simp<;>omega) _
   exact d.bel
  ·have c:=aW (gT j.out b H.out);clear H;go_wp2;refine aA (v:=.tuple #[.agg #[.int .i64 0,.slice none 0 0,.slice none 0 0],.int .i64 3]) (by simp[results,results48,go_sem,h,g,f];try rfl) rfl (iF c.out ?_);repeat refine aR ?_ (by simp<;>omega) _
   exact d.bel
  ·have c:=aW (gT j.out b H.out);clear H;go_wp2_with(go_at_call 82;refine(ji _ _).mono ?_;rw[n.out];rintro e z ⟨rfl,rfl⟩);refine aA (v:=.tuple #[.agg #[.int .i64 0,.slice none 0 0,.slice none 0 0],.int .i64 3]) (by simp[results,results48,go_sem,h,g,f];try rfl) rfl (iF c.out ?_);repeat refine aR ?_ (by simp<;>omega) _
   exact d.bel
  ·have c:=aW (gT j.out b H.out);clear H;go_wp2_with(go_at_call 82;refine(ji _ _).mono ?_;rw[n.out];rintro e z ⟨rfl,rfl⟩);refine aA (v:=.tuple #[.agg #[.int .i64 0,.slice none 0 0,.slice none 0 0],.int .i64 3]) (by simp[results,results48,go_sem,h,g,f];try rfl) rfl (iF c.out ?_);repeat refine aR ?_ (by simp<;>omega) _
   exact d.bel
  ·have c:=aW (gT j.out b H.out);clear H;go_wp2_with(go_at_call 82;refine(ji _ _).mono ?_;rw[n.out];rintro e z ⟨rfl,rfl⟩);refine aA (v:=.tuple #[.agg #[.int .i64 0,.slice none 0 0,.slice none 0 0],.int .i64 3]) (by simp[results,results48,go_sem,h,g,f];try rfl) rfl (iF c.out ?_);repeat refine aR ?_ (by simp<;>omega) _
   exact d.bel
  ·exact absurd ⟨j.out,b,H.out⟩ i.out
