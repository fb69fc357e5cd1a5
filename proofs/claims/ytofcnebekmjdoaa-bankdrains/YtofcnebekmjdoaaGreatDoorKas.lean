import Derived.Test.YtofcnebekmjdoaaGreatDoorKar
set_option maxHeartbeats 4000000
set_option maxRecDepth 100000
namespace Go.Proofs.YtofcnebekmjdoaaGreatDoor.Bn
open Go.Proofs.YtofcnebekmjdoaaGreatDoor
def Bound (K:Nat) (b:Bank):Prop:=∀acc:Int,acc≠0→-(1000000*(K:Int))≤Bk.getE b.book acc∧Bk.getE b.book acc≤1000000*(K :Int)
theorem Bound.more {K:Nat}{b x:Bank} (h:Bound K b) (hx:∀acc:Int,acc≠0→-1000000≤Bk.getE x.book acc-Bk.getE b.book acc∧Bk.getE x.book acc-Bk.getE b.book acc≤1000000):Bound (K +1) x:=fun acc ha=>by
 have h1:=h acc ha
 have h2:=hx acc ha
 rw [Int.natCast_add,Int.natCast_one,Int.mul_add]
 omega
theorem Bound.same {K:Nat}{b x:Bank}(h:Bound K b) (hx:x.book=b.book):Bound (K+1) x:=h.more fun acc _=>by rw[hx];omega
theorem Bound.mono {K L:Nat}{b:Bank}(h:Bound K b) (hl:K≤L):Bound L b:=fun acc ha=>by have:= h acc ha;omega
theorem addL_get {l:List (Int×Int)} (h:Bk.Right l) (i:Nat):Bk.addL Bk.zeroF l i=Bk.getE l i:=by
 rw[Bk.addL_at (fun e he=>(h.all e he).1),Bk.given_rise h.rise]
 simp[Bk.zeroF]
theorem moveB_fits {l:List (Int×Int)}{src dst n:Int} (hl:(Bk.wrong l).1=0) (hs:0≤src∧src<58) (hd:0≤dst∧dst<58) (hne:src≠dst) (hn:0≤n∧n≤1000000000000)
  (h1:-1000000000000≤Bk.getE l src-n) (h2:Bk.getE l dst+n≤1000000000000):(moveB l src dst n).2=0:=by
 have R:=Bk.wrong_ok.1 hl
 have t1:=Bk.getE_tot R src
 have t2:=Bk.getE_tot R dst
 unfold moveB
 rw [if_neg (by omega)]
 have hE:Bk.wrongEs [(src,-n),(dst,n)]=0:=by
  rw [Bk.wrongEs_ok]
  refine ⟨by simp,?_,by simp;omega⟩
  intro e he
  rcases List.mem_cons.1 he with rfl|he
  ·exact Bk.inR_true.2 (by dsimp only;omega)
  ·obtain rfl:=List.mem_singleton.1 he
   exact Bk.inR_true.2 (by dsimp only;omega)
 have e1:((src.toNat :Nat):Int)=src:=by omega
 have e2:((dst.toNat:Nat):Int)=dst:=by omega
 have g1:=addL_get R src.toNat
 have g2:=addL_get R dst.toNat
 rw [e1] at g1
 rw [e2] at g2
 have hA:Bk.addAll (Bk.addL Bk.zeroF l) [(src,-n),(dst,n)]≠none:=by
  simp only [Bk.addAll]
  rw [if_pos (Bk.inTot_true.2 (by rw [g1];omega))]
  have :Bk.upd (Bk.addL Bk.zeroF l) src.toNat (Bk.addL Bk.zeroF l src.toNat+-n) dst.toNat=Bk.addL Bk.zeroF l dst.toNat:=by
   unfold Bk.upd;rw [if_neg (by omega)]
  rw [this,if_pos (Bk.inTot_true.2 (by rw [g2];omega))]
  simp
 cases hf:Bk.addAll (Bk.addL Bk.zeroF l) [(src,-n),(dst,n)] with
 |none=>exact absurd hf hA
 |some f=>rw [Bk.post_done hl hE hf]
theorem move_small {l:List (Int ×Int)}{src dst n:Int}(h:(moveB l src dst n).2=0) (hn:0≤n∧n≤1000000) (hne:src≠dst) (acc:Int):-1000000≤Bk.getE (moveB l src dst n).1 acc-Bk.getE l acc∧Bk.getE (moveB l src dst n).1 acc-Bk.getE l acc≤1000000:=by
 rw[(moveB_zero h).2 acc]
 by_cases e1:src=acc
 ·rw[if_pos e1,if_neg (by omega)];omega
 ·rw[if_neg e1]
  split<;>omega
theorem load_bound {K:Nat}{b:Bank}{d:Dd}(B:Bound K b) (h:(loadB b d).2=0):Bound (K+1) (loadB b d).1:=by
 unfold loadB at h⊢
 split at h
 ·cases h
 rename_i h1
 rw[if_neg h1]
 split at h
 ·cases h
 rename_i h2
 rw[if_neg h2]
 split at h
 ·rename_i h3;exact absurd h h3
 rename_i h3
 rw[if_neg h3]
 split at h
 ·rename_i h4;exact absurd h h4
 rename_i h4
 rw[if_neg h4]
 exact B.more fun acc _=>move_small (Decidable.not_not.1 h4) (by omega) (by omega) acc
theorem delta_small {a:Au.Au}{k n acc:Int}(h:0≤n∧n≤1000000) (ha:0≤a.card∧0≤a.shop):-1000000≤bookDelta a k n acc∧bookDelta a k n acc≤1000000:=by
 unfold bookDelta
 repeat' split
 all_goals omega
theorem move_bound {K:Nat}{b:Bank}{d:Dd}(I:Inv b) (B:Bound K b) (h:(moveD b d).2=0):Bound (K +1) (moveD b d).1:=by
 unfold moveD at h⊢
 split at h
 ·cases h
 rename_i q1
 rw[if_neg q1]
 split at h
 ·cases h
 rename_i q2
 rw[if_neg q2]
 split at h
 ·rename_i q;exact absurd h q
 rename_i q3
 rw[if_neg q3]
 split at h
 ·cases h
 rename_i q4
 rw[if_neg q4]
 split at h
 ·rename_i q;exact absurd h q
 rename_i q5
 rw[if_neg q5]
 split at h
 ·rename_i q;exact absurd h q
 rename_i q6
 rw[if_neg q6]
 split at h
 ·rename_i q;exact absurd h q
 rename_i q7
 rw[if_neg q7]
 split at h
 ·cases h
 rename_i q8
 rw[if_neg q8]
 replace q3:=Au.mvErr_zero.1 (Decidable.not_not.1 q3)
 obtain ⟨-,m2⟩:=book_zero I.books.right (Decidable.not_not.1 q6)
 obtain ⟨r1,-⟩:=I.held.auth (k:=d.n) (by omega) (by omega)
 refine B.more fun acc _=>?_
 show _≤Bk.getE (bookBy b.book (b.auth d.n) d.mv d.sum).1 acc-_∧Bk.getE (bookBy b.book (b.auth d.n) d.mv d.sum).1 acc-_≤_
 rw[m2 acc]
 have:= delta_small (a:=b.auth d.n) (k:=d.mv) (n:=d.sum) (acc:=acc) ⟨by have:= q3.2.2.2.2.1;omega,q3.2.2.2.2.2.1⟩ ⟨r1.2.2.2.2.1.1,r1.2.2.2.2.2.1.1⟩
 omega
theorem pay_bound {K:Nat}{b:Bank}{d:Dd}(I:Inv b) (B:Bound K b) (h:(payB b d).2=0):Bound (K+1) (payB b d).1:=by
 unfold payB at h⊢
 split at h
 ·cases h
 rename_i h1
 rw[if_neg h1]
 split at h
 ·cases h
 rename_i h2
 rw[if_neg h2]
 split at h
 ·rename_i h3;exact absurd h h3
 rename_i h3
 rw[if_neg h3]
 obtain ⟨-,m2⟩:=moveB_zero (Decidable.not_not.1 h3)
 have ha:=I.books.accS d.n.toNat (by omega)
 rw[show ((d.n.toNat :Nat):Int)=d.n by omega] at ha
 refine (show Bound K _ from fun acc hacc=>?_).mono (Nat.le_succ K)
 show _≤Bk.getE (moveB b.book (50 +d.n) 0 (b.dueOf d.n)).1 acc∧Bk.getE (moveB b.book (50+d.n) 0 (b.dueOf d.n)).1 acc≤_
 rw[m2 acc,if_neg (show ¬(0 :Int)=acc by omega)]
 have hB:=B acc hacc
 by_cases e:50+d.n=acc
 ·rw[if_pos e,←e,ha];unfold Bank.dueOf;omega
 ·rw[if_neg e];omega
theorem comes_bound {K:Nat}{b:Bank}{i:Bool}{t:Po.Tr} (I:Inv b) (B:Bound K b) (ht:t∈(b.snd (!i)).kept) (h:(comes b i t).2=0):Bound (K+1) (comes b i t).1:=by
 obtain ⟨-,hfar,-,-⟩:=right_mem (I.sent.right (!i)) ht
 unfold Po.far at hfar
 have ha1:=I.sent.auths (!i) t ht
 obtain ⟨r1,-⟩:=I.held.auth (k:=t.a) (by omega) ha1
 have hc0:0≤(b.auth t.a).card:=r1.2.2.2.2.1.1
 have hs0:0≤(b.auth t.a).shop:=r1.2.2.2.2.2.1.1
 unfold comes at h⊢
 split at h
 ·rename_i k1
  rw [if_pos k1]
  split at h
  ·rename_i q;exact absurd h q
  rename_i q
  rw [if_neg q]
  exact B.more fun acc _=>move_small (Decidable.not_not.1 q) (by omega) (by omega) acc
 rename_i k1
 rw [if_neg k1]
 split at h
 ·rename_i k2
  rw [if_pos k2]
  split at h
  ·rename_i q;exact absurd h q
  rename_i q
  rw [if_neg q]
  split at h
  ·rename_i q2;exact absurd h q2
  rename_i q2
  rw [if_neg q2]
  exact B.more fun acc _=>move_small (Decidable.not_not.1 q2) (by omega) (by omega) acc
 rename_i k2
 rw [if_neg k2]
 split at h
 ·rename_i k3
  rw [if_pos k3]
  split at h
  ·rename_i q;exact absurd h q
  rename_i q
  rw [if_neg q]
  exact B.more fun acc _=>move_small (Decidable.not_not.1 q) (by omega) (by omega) acc
 ·rename_i k3
  rw [if_neg k3]
  exact B.same rfl
theorem arrive_bound {K:Nat}{b:Bank}{d:Dd}{lost:Bool}(I:Inv b) (B:Bound K b) (h:(arriveB b d lost).2=0):Bound (K +1) (arriveB b d lost).1:=by
 unfold arriveB at h⊢
 by_cases h1:d.n<0∨1<d.n
 ·rw[if_pos h1] at h;cases h
 rw[if_neg h1] at h⊢
 generalize sideOf d.n=i at*
 cases hw:b.way i with
 |nil=>rw[hw] at h;cases h
 |cons p r=>
  rw[hw] at h
  dsimp only at h⊢
  cases lost with
  |true=>rw[if_pos rfl];exact B.same rfl
  |false=>
   rw[if_neg (by simp)] at h⊢
   have hp:=I.sent.ways i p (by rw[hw];exact List.mem_cons_self)
   unfold arriveAt at h⊢
   by_cases h2:0≤p.seen
   ·rw[if_pos h2] at h⊢
    split at h
    ·rename_i h3;exact absurd h h3
    rename_i h3
    rw[if_neg h3]
    exact B.same rfl
   ·rw[if_neg h2] at h⊢
    by_cases h3:p.t.n≠b.seen i+1∨1000000≤b.seen i
    ·rw[if_pos h3];exact B.same rfl
    ·rw[if_neg h3] at h⊢
     refine comes_bound I B ?_ h
     rcases hp with ⟨-,g1|g1⟩|⟨g1,-⟩
     ·omega
     ·exact g1
     ·omega
theorem do_bound{K:Nat}{b:Bank}{d:Dd}(I:Inv b) (B:Bound K b):Bound (K+1) (doB b d).1:=by
 by_cases h:(doB b d).2.1=0
 case neg=>rw[doB_refused b d h];exact B.mono (Nat.le_succ K)
 unfold doB at h⊢
 split at h
 ·rename_i e;rw[if_pos e];exact load_bound B h
 rename_i e;rw[if_neg e]
 split at h
 ·rename_i e;rw[if_pos e]
  unfold askB askDown askUp
  repeat' split
  all_goals exact B.same rfl
 rename_i e;rw[if_neg e]
 split at h
 ·rename_i e;rw[if_pos e];exact move_bound I B h
 rename_i e;rw[if_neg e]
 split at h
 ·rename_i e;rw[if_pos e]
  unfold two tickB
  repeat' split
  all_goals exact B.same rfl
 rename_i e;rw[if_neg e]
 split at h
 ·rename_i e;rw[if_pos e]
  unfold two sendB
  repeat' split
  all_goals exact B.same rfl
 rename_i e;rw[if_neg e]
 split at h
 ·rename_i e;rw[if_pos e];exact arrive_bound I B h
 rename_i e;rw[if_neg e]
 split at h
 ·rename_i e;rw[if_pos e];exact arrive_bound I B h
 rename_i e;rw[if_neg e]
 split at h
 ·rename_i e;rw[if_pos e]
  unfold two downB
  repeat' split
  all_goals exact B.same rfl
 rename_i e;rw[if_neg e]
 split at h
 ·rename_i e;rw[if_pos e]
  unfold two upB
  repeat' split
  all_goals exact B.same rfl
 rename_i e;rw[if_neg e]
 split at h
 ·rename_i e;rw[if_pos e];exact B.same rfl
 rename_i e;rw[if_neg e]
 split at h
 ·rename_i e;rw[if_pos e];exact pay_bound I B h
 rename_i e;rw[if_neg e];exact B.same rfl
theorem play_bound {b:Bank} (I:Inv b) (B:Bound 0 b) (l:List Dd):Bound l.length (playL b l).1:=by
 have key:∀(l:List Dd) (K:Nat) (s:Bank×List (Dd×An)),Inv s.1→Bound K s.1→Bound (K+l.length) (l.foldl play1 s).1:=by
  intro l
  induction l with
  |nil=>intro K s _ h;exact h
  |cons d r ih=>
   intro K s hI hB
   have:= ih (K +1) (play1 s d) (play1_inv hI d) (by
    unfold play1
    split
    ·exact hB.mono (Nat.le_succ K)
    ·exact do_bound hI hB)
   rw[List.foldl_cons,List.length_cons]
   rwa[show K+(r.length +1)=K+1+r.length by omega]
 have :=key l 0 (b,[]) I B
 rwa[Nat.zero_add] at this
end Go.Proofs.YtofcnebekmjdoaaGreatDoor.Bn
