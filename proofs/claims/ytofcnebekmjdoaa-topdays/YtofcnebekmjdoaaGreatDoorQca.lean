import Derived.Test.YtofcnebekmjdoaaGreatDoorQap
import Derived.Test.YtofcnebekmjdoaaGreatDoorQbz
set_option maxHeartbeats 4000000
set_option maxRecDepth 100000
namespace Go.Proofs.YtofcnebekmjdoaaGreatDoor.Bn
def dayD (n : Int) : Dd := if 0 < n then Bd 2 0 n else Bd 5 0 (-(max n (-1000000)))
def dDay : Dd := ⟨0, 10, 0, 0, 0, 0⟩
def dayL (has : Int) (l : List Int) : List Dd := [Dc 0 has, dAsk 0 1 has] ++ (l.map dayD ++ ([dDay] ++ Bq 8))
theorem Got.more {b : Aa} {K M K2 M2 : Nat} {T c s has : Int} {a : Au.Au} (G : Got b K M T c s has a) (hK : K ≤ K2) (hM : M ≤ M2) : Got b K2 M2 T c s has a :=
 ⟨G.inv, G.bound.mono hK, G.down, G.time, G.auths, G.cards, G.due, G.cb, G.ob, G.db, G.out, G.way, fun i => Nat.le_trans (G.kept i) hM, fun i => by have := G.sent i; omega, Nat.le_trans G.today hK, G.card, G.shop, G.c01, G.s01⟩
theorem move_no {b : Aa} {mv n : Int} (hd : b.down = false) (ha : b.auths.length = 1) (he : Au.mvErr (b.auth 0) mv n ≠ 0) : (By b (Bd mv 0 n)).1 = b := by
 refine Db b _ ?_
 show (Eu b (Bd mv 0 n)).2 ≠ 0
 unfold Eu
 rw [if_neg (by rw [hd]; simp), if_neg (by show ¬ ((0 : Int) < 0 ∨ _ ≤ (0 : Int)); rw [ha]; omega), if_pos (show Au.mvErr (b.auth (Bd mv 0 n).n) (Bd mv 0 n).mv (Bd mv 0 n).sum ≠ 0 from he)]
 exact he
structure Dt (b : Aa) (K M : Nat) (has : Int) (a : Au.Au) : Prop where
 got : Got b K M 0 0 1 has a
 one : Dy.net 1 b.today = a.cap - a.ref
 zero : Dy.net 0 b.today = 0
 days : b.days = []
theorem Dt.step {b : Aa} {K M : Nat} {has : Int} {a : Au.Au} (D : Dt b K M has a) (hM : M ≤ 20) (hK : K ≤ 90) {mv : Int} (n : Int) (hmv : mv = 2 ∨ mv = 5) : ∃ a', Dt (By b (Bd mv 0 n)).1 (K + 1) (M + 1) has a' := by
 have hau : b.auth 0 = a := by unfold Aa.auth; rw [D.got.auths]; rfl
 by_cases he : Au.mvErr a mv n = 0
 ·obtain ⟨e, G⟩ := D.got.step hM hK he (by omega)
  have ht : (By b (Bd mv 0 n)).1.today = b.today ++ [⟨1, 0, mv, n⟩] := by
   rw [e]
   show b.today ++ [⟨(b.auth 0).shop, 0, mv, n⟩] = _
   rw [hau, D.got.shop]
  refine ⟨Au.step a mv n, G.more (Nat.le_refl _) (by unfold sends; split <;> omega), ?_, ?_, by rw [e]; exact D.days⟩
  ·have h1 := D.one
   unfold Dy.net at h1 ⊢
   rw [ht, Dy.sumBy_append, h1]
   rcases hmv with rfl | rfl
   ·simp [Dy.sumBy, Dy.netF, Dy.sgn, Au.step]; omega
   ·simp [Dy.sumBy, Dy.netF, Dy.sgn, Au.step]; omega
  ·have h1 := D.zero
   unfold Dy.net at h1 ⊢
   rw [ht, Dy.sumBy_append, h1]
   simp [Dy.sumBy, Dy.netF]
 ·rw [move_no D.got.down (by rw [D.got.auths]; rfl) (by rw [hau]; exact he)]
  exact ⟨a, D.got.more (by omega) (by omega), D.one, D.zero, D.days⟩
theorem Dt.all {has : Int} (l : List Int) : ∀ {b : Aa} {K M : Nat} {a : Au.Au}, Dt b K M has a → K + l.length ≤ 90 → M + l.length ≤ 20 → ∃ a', Dt (run b (l.map dayD)) (K + l.length) (M + l.length) has a' := by
 induction l with
 | nil => intro b K M a D _ _; exact ⟨a, D⟩
 | cons n r ih =>
  intro b K M a D h1 h2
  rw [List.length_cons] at h1 h2
  have h3 : ∃ a', Dt (By b (dayD n)).1 (K + 1) (M + 1) has a' := by
   unfold dayD
   split
   ·exact D.step (by omega) (by omega) _ (Or.inl rfl)
   ·exact D.step (by omega) (by omega) _ (Or.inr rfl)
  obtain ⟨a', D'⟩ := h3
  obtain ⟨a2, D2⟩ := ih D' (by omega) (by omega)
  refine ⟨a2, ?_⟩
  rw [List.map_cons, Ga, List.length_cons, show K + (r.length + 1) = K + 1 + r.length by omega, show M + (r.length + 1) = M + 1 + r.length by omega]
  exact D2
theorem days_plain {has : Int} (h1 : 1 ≤ has) (h2 : has ≤ 100000) (l : List Int) (hl : l.length ≤ 6) : ∃ t, Dy.Right t ∧ (run (Cl 0) (dayL has l)).days = [Dy.fileB t] ∧ Dy.net 1 t = (run (Cl 0) (dayL has l)).due.getD 1 0 ∧ Dy.net 0 t = 0 := by
 obtain ⟨G2, -, -⟩ := got_ask (c := 0) (s := 1) (has := has) (asked := has) (Or.inl rfl) (Or.inr rfl) h1 (Int.le_refl _) h2
 have q1 := do_quiet (b := Cl 0) (d := Dc 0 has) (by show (1 : Int) ≠ 3; decide) (by show (1 : Int) ≠ 10; decide)
 have q2 := do_quiet (b := (By (Cl 0) (Dc 0 has)).1) (d := dAsk 0 1 has) (by show (2 : Int) ≠ 3; decide) (by show (2 : Int) ≠ 10; decide)
 unfold dayL
 rw [run_append, run_append, run_append]
 have t2 : (run (Cl 0) [Dc 0 has, dAsk 0 1 has]).today = [] := q2.today.trans q1.today
 have y2 : (run (Cl 0) [Dc 0 has, dAsk 0 1 has]).days = [] := q2.days.trans q1.days
 generalize run (Cl 0) [Dc 0 has, dAsk 0 1 has] = b2 at *
 have D2 : Dt b2 2 0 has _ := ⟨G2, by rw [t2]; rfl, by rw [t2]; rfl, y2⟩
 obtain ⟨a, D⟩ := Dt.all l D2 (by omega) (by omega)
 generalize run b2 (l.map dayD) = b3 at *
 have G := D.got
 have hx : run b3 [dDay] = (dayB b3).1 := rfl
 have I := do_inv (d := dDay) G.inv
 have B := do_bound (d := dDay) G.inv G.bound
 have d1 := fun k => do_bal (d := dDay) G.inv k
 rw [hx]
 have e : (By b3 dDay).1 = (dayB b3).1 := rfl
 rw [e] at I B d1
 have C := come_ok (n := 8) I B (by omega) (fun i => G.way i) (fun i => by have := G.kept i; show (b3.snd i).kept.length + 1 ≤ 8; omega)
 have hd := due_end 1 (C.kept false)
 rw [C.still.db, d1, pays_no (by show (10 : Int) ≠ 11; decide), G.db, C.still.plain.auths, show (dayB b3).1.auths = b3.auths from rfl, G.auths, Di] at hd
 refine ⟨b3.today, G.inv.held.today, ?_, ?_, D.zero⟩
 ·rw [C.still.plain.days]
  show b3.days ++ [Dy.fileB b3.today] = _
  rw [D.days]; rfl
 ·rw [hd, D.one]
  unfold Eh
  rw [if_pos (show a.shop = ((1 : Nat) : Int) from G.shop)]
  omega
open RowKit Gn Maps
theorem come8_len : (Bq 8).length = 36 := by kernel_rfl
theorem come8_at (i j k : Nat) (hi : i < 2) (hj : j < 2) (hk : k < 8) : (Bq 8).getD (18 * i + 2 + 8 * j + k) zD = ⟨0, 6, j, 0, 0, 0⟩ := by
 obtain rfl | rfl : i = 0 ∨ i = 1 := by omega
 all_goals obtain rfl | rfl : j = 0 ∨ j = 1 := by omega
 all_goals obtain rfl | rfl | rfl | rfl | rfl | rfl | rfl | rfl : k = 0 ∨ k = 1 ∨ k = 2 ∨ k = 3 ∨ k = 4 ∨ k = 5 ∨ k = 6 ∨ k = 7 := by omega
 all_goals kernel_rfl
theorem come8_two (i : Nat) (hi : i < 2) : (Bq 8).take (18 * i + 2) = (Bq 8).take (18 * i) ++ [⟨0, 5, 0, 0, 0, 0⟩, ⟨0, 5, 1, 0, 0, 0⟩] := by
 obtain rfl | rfl : i = 0 ∨ i = 1 := by omega
 all_goals kernel_rfl
theorem come8_one (i j k : Nat) (hi : i < 2) (hj : j < 2) (hk : k < 8) : (Bq 8).take (18 * i + 2 + 8 * j + (k + 1)) = (Bq 8).take (18 * i + 2 + 8 * j + k) ++ [⟨0, 6, j, 0, 0, 0⟩] := by
 rw [← come8_at i j k hi hj hk]
 exact take_snoc (i := 18 * i + 2 + 8 * j + k) _ (by rw [come8_len]; omega)
def day2 (has : Int) : List Dd := [⟨0, 1, 0, 0, 0, has⟩, ⟨0, 2, 0, 1, 0, has⟩]
theorem day_more (has : Int) (l : List Int) {i : Nat} (hi : i < l.length) : (day2 has ++ (l.take i).map dayD) ++ [dayD (l.getD i 0)] = day2 has ++ (l.take (i + 1)).map dayD := by
 have e : l.take (i + 1) = l.take i ++ [l.getD i 0] := by rw [List.take_add_one]; simp [List.getD, hi]
 rw [List.append_assoc, e, List.map_append]
 rfl
theorem day_all (has : Int) (l : List Int) : ((day2 has ++ l.map dayD) ++ [⟨0, 10, 0, 0, 0, 0⟩]) ++ Bq 8 = dayL has l := by
 unfold dayL day2
 simp [Dc, dAsk, dDay]
theorem dayD_pos {n : Int} (h : 0 < n) : dayD n = ⟨0, 3, 0, 0, 2, n⟩ := by unfold dayD; rw [if_pos h]; rfl
theorem dayD_neg {n : Int} (h : ¬ 0 < n) : dayD n = ⟨0, 3, 0, 0, 5, -(max n (-1000000))⟩ := by unfold dayD; rw [if_neg h]; rfl
theorem dayL_ids (has : Int) (l : List Int) : ∀ d ∈ dayL has l, d.id = 0 := by
 intro d hd
 rw [← day_all] at hd
 rcases List.mem_append.1 hd with h | h
 ·rcases List.mem_append.1 h with h | h
  ·rcases List.mem_append.1 h with h | h
   ·simp [day2] at h; rcases h with rfl | rfl <;> rfl
   ·obtain ⟨n, -, rfl⟩ := List.mem_map.1 h
    unfold dayD
    split <;> rfl
  ·simp at h; rw [h]
 ·unfold Bq Dm at h
  simp only [List.mem_append, List.mem_cons, List.mem_replicate, List.not_mem_nil, or_false] at h
  rcases h with ((((rfl | rfl) | ⟨-, rfl⟩) | ⟨-, rfl⟩) | (((rfl | rfl) | ⟨-, rfl⟩) | ⟨-, rfl⟩)) <;> rfl
theorem dayL_len (has : Int) (l : List Int) : (dayL has l).length = l.length + 39 := by
 rw [← day_all, List.length_append, come8_len]
 simp [day2]
theorem small_one {x : Int} (h : smallB [x] = true) : 1 ≤ x ∧ x ≤ 100000 := by
 unfold smallB at h
 simp at h
 omega
theorem tday_facts {has : Int} (h1 : 1 ≤ has) (h2 : has ≤ 100000) {l : List Int} (hl : l.length ≤ 6) {W W' : World} {v : Vs} {cs : List CV} {ds : List DV} (SH : Shows W (run (Cl 0) (dayL has l)) v cs ds) (hb : Below W.heap.size W W') :
  ∃ (t : List Dy.Rc) (x : DV) (z1 o1 c1 z2 o2 c2 : Nat), Dy.Right t ∧ x.l = Dy.fileB t ∧ v.dy = .slice (some ⟨z1, o1, none⟩) 1 c1 ∧ W'.cell? ⟨z1, o1, none⟩ = some (.slice x.a x.l.length x.cap) ∧ Gn.Lies kB W' x.a x.cap x.l ∧ v.d = .slice (some ⟨z2, o2, none⟩) 2 c2 ∧ W'.cell? ⟨z2, o2 + 1, none⟩ = some (.int .i64 (Dy.net 1 t)) ∧ Dy.net 0 t = 0 := by
 obtain ⟨t, p1, p2, p3, p4⟩ := days_plain h1 h2 l hl
 have I : Cj (Cl 0) := top_inv (by decide)
 have hlen := run_lens I (dayL has l)
 have S2 := SH.below hb
 obtain ⟨z2, o2, c2, hd, f2⟩ := due_at S2 (n := 2) (k := 1) (hlen.2.trans rfl) (by decide)
 have hdsv := S2.dsv
 rw [p2] at hdsv
 obtain ⟨x, rfl⟩ : ∃ x, ds = [x] := by
  have := congrArg List.length hdsv
  simp at this
  exact List.length_eq_one_iff.1 this
 obtain ⟨a1, c1, e1, l1⟩ := S2.days.lies
 obtain ⟨z1, o1, rfl, -, f1⟩ := l1.elem (i := 0) (x := x) rfl
 have hx : x.l = Dy.fileB t := by simpa using hdsv
 refine ⟨t, x, z1, o1, c1, z2, o2, c2, p1, hx, e1, by simpa using f1 0 _ rfl, ?_, hd, by rw [p3]; exact f2, p4⟩
 obtain ⟨a', cap', hv, hl', -⟩ := S2.files x (by simp)
 injection hv with q1 _ q2
 rw [q1, q2]
 exact hl'
theorem tday_any (has : Int) (a : Option Addr) (c : Nat) (l : List Int) (w : World) (_ : -9223372036854775808 ≤ has ∧ has ≤ 9223372036854775807) (hl : Gn.Lies kI w a c l) (_ : ∀ n ∈ l, -9223372036854775808 ≤ n ∧ n ≤ 9223372036854775807) (O : Oth w) :
  Calls Tryz.prog 16 #[.int .i64 has, .slice a l.length c] w fun e w' => e = .returned (.bool true) ∧ Below w.heap.size w w' := by
 have hA := talive_any w O
 have hS := fun (X : World) => tsetup_any 0 X
 have hD := fun (k n s : Int) (X : World) => tdo_any k n s X
 have hM := fun (k n s : Int) (X : World) => tmove_any k n s X
 unfold Ik at hD hM
 have hmx := hl.len
 unfold maxLen at hmx
 go_enter Tryz.func16, Tryz.ntmps16
 go_upto_region 1 with fail
 go_upto_region 2 with fail
 refine hA.mono ?_
 rintro _ w1 ⟨rfl, hb1⟩
 clear hA
 have e2 := below_alloc w1 (.cells #[.int .i64 has] 3)
 have hl2 : Gn.Lies kI (w1.alloc (.cells #[.int .i64 has] 3)) (some ⟨w1.heap.size, 0, none⟩) 1 [has] := Fg (K := kI) (L := [has]) (heap_alloc_at _ _ _ rfl) rfl (by simp [maxLen]) _
 have hSm := small_any _ _ _ _ hl2
 have hb2 := hb1.trans (e2.mono hb1.size)
 have hl2' : [has].length = 1 := rfl
 rw [hl2'] at hSm
 have hsm := @small_one has
 generalize smallB [has] = sm at *
 clear e2 hl2 hl2'
 go_upto_region 3 with fail
 go_upto_region 4 with fail
 refine hSm.mono ?_
 rintro _ w3 ⟨rfl, hb3⟩
 have hbw : Below w.heap.size w w3 := hb2.trans (hb3.mono hb2.size)
 clear hSm hb1 hb2 hb3
 cases sm with
 | false =>
  clear hS hD hM
  go_wp2_with fail
  exact bodyPost_ret (results_tmp Tryz.results16 _ _ _) rfl ⟨rfl, hbw⟩
 | true =>
  have hsm' := hsm rfl
  clear hsm
  by_cases c6 : 6 < (l.length : Int)
  ·clear hS hD hM
   go_wp2_with fail
   exact bodyPost_ret (results_tmp Tryz.results16 _ _ _) rfl ⟨rfl, hbw⟩
  have h6 : l.length ≤ 6 := by omega
  have hP := fun (W : World) (u : Option Addr) (q : Nat) (al : Option Addr) (cl : Nat) (h : Gn.Lies kPa W u q psT) (hd : Gn.Lies kDd W al cl (dayL has l)) (hO : Oth W) => play_any psT u q 2 0 al cl (dayL has l) W h hd (fit0 (dayL_ids has l)) hO
  have hF := fun (W W' : World) (v : Vs) (cs : List CV) (ds : List DV) SH hb => tday_facts (has := has) (l := l) (W := W) (W' := W') (v := v) (cs := cs) (ds := ds) hsm'.1 hsm'.2 h6 SH hb
  rw [playR_top (by decide) (dayL_ids has l) (by rw [dayL_len]; omega), show psT.length = 2 from rfl, dayL_len] at hP
  unfold Plays at hP
  dsimp only at hP
  generalize run (Cl 0) (dayL has l) = b at *
  generalize ansL (Cl 0) (dayL has l) = A at *
  simp only [bkv_cells] at hP
  unfold suv at hS hP
  unfold Dy.fv at hP
  go_upto_region 5 with fail
  go_upto_region 6 with fail
  refine (hD _ _ _ _).mono ?_
  rintro _ w4 ⟨rfl, hb4⟩
  have e5 := below_alloc w4 (.cells #[.int .i64 0, .int .i64 1, .int .i64 0, .int .i64 0, .int .i64 0, .int .i64 has, .int .i64 0, .int .i64 2, .int .i64 0, .int .i64 1, .int .i64 0, .int .i64 has] 74)
  have hd5 : Gn.Lies kDd (w4.alloc (.cells #[.int .i64 0, .int .i64 1, .int .i64 0, .int .i64 0, .int .i64 0, .int .i64 has, .int .i64 0, .int .i64 2, .int .i64 0, .int .i64 1, .int .i64 0, .int .i64 has] 74)) (some ⟨w4.heap.size, 0, none⟩) 2 (day2 has ++ (l.take 0).map dayD) := Fg (K := kDd) (L := day2 has) (heap_alloc_at _ _ _ rfl) rfl (by simp [day2, maxLen]) _
  have hR5 : Row kDd 74 (w4.alloc (.cells #[.int .i64 0, .int .i64 1, .int .i64 0, .int .i64 0, .int .i64 0, .int .i64 has, .int .i64 0, .int .i64 2, .int .i64 0, .int .i64 1, .int .i64 0, .int .i64 has] 74)) w4.heap.size (.slice (some ⟨w4.heap.size, 0, none⟩) 2 2) (day2 has ++ (l.take 0).map dayD) := Row.full (L := day2 has ++ (l.take 0).map dayD) w4.heap.size (Nat.le_refl _) hd5 (by simp)
  have hbw4 := hbw.trans (hb4.mono hbw.size)
  have hbw5 := hbw4.trans (e5.mono hbw4.size)
  have hl5 := hl.below hbw5
  have hw4 := hbw4.size
  have hlw : ∀ ad, a = some ad → l ≠ [] → ad.block < w4.heap.size := fun ad h hn => Nat.lt_of_lt_of_le (lies_lt hl hn ad h) hw4
  clear hd5 hb4 hbw4 hbw
  go_upto_region 7 with fail
  generalize hw5 : w4.alloc (.cells #[.int .i64 0, .int .i64 1, .int .i64 0, .int .i64 0, .int .i64 0, .int .i64 has, .int .i64 0, .int .i64 2, .int .i64 0, .int .i64 1, .int .i64 0, .int .i64 has] 74) = w5 at *
  have hsz5 : w4.heap.size ≤ w5.heap.size := by rw [← hw5]; simp
  clear hw5 e5
  have C0 := cg_start hR5 hsz5
  go_loopw [32, 5] (fun i vo wr => ∃ k : Nat, k ≤ l.length ∧ i = .int .i64 k ∧ Cg w5 wr (.slice (some ⟨w4.heap.size, 0, none⟩) 2 2) w4.heap.size vo (day2 has ++ (l.take k).map dayD)) (fun i _ _ => l.length - (intOf i).toNat)
  case atStart => exact ⟨0, Nat.zero_le _, rfl, C0⟩
  case round =>
   clear C0 hR5
   obtain ⟨k, hk, rfl, C⟩ := hrel
   have hlen : (day2 has ++ (l.take k).map dayD).length = k + 2 := by simp [day2]; omega
   by_cases hlt : k < l.length
   ·have hlt' : (k : Int) < l.length := by omega
    have hmo := hid (day_more has l hlt)
    have hne : l ≠ [] := fun h => by rw [h] at hlt; simp at hlt
    have hlr : Gn.Lies kI wr a c l := hl5.keep C.big fun ad h _ => C.bel.block _ (hlw ad h hne)
    obtain ⟨z, off, rfl, zlt, f0⟩ := int_cell hlr hlt
    by_cases hp : 0 < l.getD k 0
    ·rw [dayD_pos hp] at hmo
     generalize l.getD k 0 = n at *
     go_upto_region 10 with fail
     go_wp2_with fail
     refine (hM _ _ _ _).mono ?_
     rintro _ w9 ⟨rfl, hb9⟩
     have e10 := below_alloc w9 (.cells #[.int .i64 0, .int .i64 3, .int .i64 0, .int .i64 0, .int .i64 2, .int .i64 n] 74)
     have hone : Gn.Lies kDd (w9.alloc (.cells #[.int .i64 0, .int .i64 3, .int .i64 0, .int .i64 0, .int .i64 2, .int .i64 n] 74)) (some ⟨w9.heap.size, 0, none⟩) 1 [⟨0, 3, 0, 0, 2, n⟩] := Fg (K := kDd) (L := [⟨0, 3, 0, 0, 2, n⟩]) (heap_alloc_at _ _ _ rfl) rfl (by simp [maxLen]) _
     have hbX := hb9.trans (e10.mono hb9.size)
     have hrow := C.row.below hbX
     have hsz := Nat.le_trans C.size hbX.size
     clear hS hD hM hP hF e10 f0
     go_wp2_with (at_builtin; refine Ai elemDd _ rfl _ _ rfl w4.heap.size u5 (day2 has ++ (l.take k).map dayD) rfl hrow _ 1 1 [⟨0, 3, 0, 0, 2, n⟩] rfl rfl hone (by rw [hlen]; simp [maxLen]; omega) (by rw [hlen]; simp; omega) hsz ?_; intro v11 w11 hown hgrow hat hon)
     have C2 := C.grow hbX _ hown hgrow hat
     rw [hmo.out] at C2
     go_roundw
     case rel => exact ⟨k + 1, by omega, by go_num, C2⟩
     case measure => simp [intOf]; omega
    ·rw [dayD_neg hp] at hmo
     by_cases hq : l.getD k 0 < -1000000
     ·rw [show -(max (l.getD k 0) (-1000000)) = 1000000 by omega] at hmo
      generalize l.getD k 0 = n at *
      go_upto_region 11 with fail
      go_wp2_with fail
      refine (hM _ _ _ _).mono ?_
      rintro _ w9 ⟨rfl, hb9⟩
      have e10 := below_alloc w9 (.cells #[.int .i64 0, .int .i64 3, .int .i64 0, .int .i64 0, .int .i64 5, .int .i64 1000000] 74)
      have hone : Gn.Lies kDd (w9.alloc (.cells #[.int .i64 0, .int .i64 3, .int .i64 0, .int .i64 0, .int .i64 5, .int .i64 1000000] 74)) (some ⟨w9.heap.size, 0, none⟩) 1 [⟨0, 3, 0, 0, 5, 1000000⟩] := Fg (K := kDd) (L := [⟨0, 3, 0, 0, 5, 1000000⟩]) (heap_alloc_at _ _ _ rfl) rfl (by simp [maxLen]) _
      have hbX := hb9.trans (e10.mono hb9.size)
      have hrow := C.row.below hbX
      have hsz := Nat.le_trans C.size hbX.size
      clear hS hD hM hP hF e10 f0
      go_wp2_with (at_builtin; refine Ai elemDd _ rfl _ _ rfl w4.heap.size u5 (day2 has ++ (l.take k).map dayD) rfl hrow _ 1 1 [⟨0, 3, 0, 0, 5, 1000000⟩] rfl rfl hone (by rw [hlen]; simp [maxLen]; omega) (by rw [hlen]; simp; omega) hsz ?_; intro v11 w11 hown hgrow hat hon)
      have C2 := C.grow hbX _ hown hgrow hat
      rw [hmo.out] at C2
      go_roundw
      case rel => exact ⟨k + 1, by omega, by go_num, C2⟩
      case measure => simp [intOf]; omega
     ·rw [show -(max (l.getD k 0) (-1000000)) = -(l.getD k 0) by omega] at hmo
      generalize l.getD k 0 = n at *
      have hwp : IntKind.i64.wrap (-n) = -n := wrap64' (by omega) (by omega)
      go_upto_region 11 with fail
      go_wp2_with fail
      refine (hM _ _ _ _).mono ?_
      rintro _ w9 ⟨rfl, hb9⟩
      have e10 := below_alloc w9 (.cells #[.int .i64 0, .int .i64 3, .int .i64 0, .int .i64 0, .int .i64 5, .int .i64 (-n)] 74)
      have hone : Gn.Lies kDd (w9.alloc (.cells #[.int .i64 0, .int .i64 3, .int .i64 0, .int .i64 0, .int .i64 5, .int .i64 (-n)] 74)) (some ⟨w9.heap.size, 0, none⟩) 1 [⟨0, 3, 0, 0, 5, -n⟩] := Fg (K := kDd) (L := [⟨0, 3, 0, 0, 5, -n⟩]) (heap_alloc_at _ _ _ rfl) rfl (by simp [maxLen]) _
      have hbX := hb9.trans (e10.mono hb9.size)
      have hrow := C.row.below hbX
      have hsz := Nat.le_trans C.size hbX.size
      clear hS hD hM hP hF e10 f0
      go_wp2_with (at_builtin; refine Ai elemDd _ rfl _ _ rfl w4.heap.size u5 (day2 has ++ (l.take k).map dayD) rfl hrow _ 1 1 [⟨0, 3, 0, 0, 5, -n⟩] rfl rfl hone (by rw [hlen]; simp [maxLen]; omega) (by rw [hlen]; simp; omega) hsz ?_; intro v11 w11 hown hgrow hat hon)
      have C2 := C.grow hbX _ hown hgrow hat
      rw [hmo.out] at C2
      go_roundw
      case rel => exact ⟨k + 1, by omega, by go_num, C2⟩
      case measure => simp [intOf]; omega
   ·obtain rfl : k = l.length := by omega
    have hge : ¬ ((l.length : Int) < l.length) := by omega
    rw [List.take_length] at C hlen
    go_upto_region 13 with fail
    have e10 := below_alloc wr (.cells #[.int .i64 0, .int .i64 10, .int .i64 0, .int .i64 0, .int .i64 0, .int .i64 0] 74)
    have hone : Gn.Lies kDd (wr.alloc (.cells #[.int .i64 0, .int .i64 10, .int .i64 0, .int .i64 0, .int .i64 0, .int .i64 0] 74)) (some ⟨wr.heap.size, 0, none⟩) 1 [⟨0, 10, 0, 0, 0, 0⟩] := Fg (K := kDd) (L := [⟨0, 10, 0, 0, 0, 0⟩]) (heap_alloc_at _ _ _ rfl) rfl (by simp [maxLen]) _
    have hrow := C.row.below e10
    have hsz := Nat.le_trans C.size e10.size
    go_upto_region 15 with (at_builtin; refine Ai elemDd _ rfl _ _ rfl w4.heap.size u5 (day2 has ++ l.map dayD) rfl hrow _ 1 1 [⟨0, 10, 0, 0, 0, 0⟩] rfl rfl hone (by rw [hlen]; simp [maxLen]; omega) (by rw [hlen]; simp; omega) hsz ?_; intro v11 w11 hown hgrow hat hon)
    have C2 := C.grow e10 _ hown hgrow hat
    have hlen2 : ((day2 has ++ l.map dayD) ++ [(⟨0, 10, 0, 0, 0, 0⟩ : Dd)]).length = l.length + 3 := by rw [List.length_append, hlen]; simp
    have hall := hid (day_all has l)
    generalize (day2 has ++ l.map dayD) ++ [(⟨0, 10, 0, 0, 0, 0⟩ : Dd)] = Ld at *
    have hCL : Hid ((Bq 8).length = 36) := hid come8_len
    clear hown hgrow hat hon hrow hsz hone e10 C hlen
    go_loopw [55, 5] (fun i vo wr => ∃ k : Nat, k ≤ 2 ∧ i = .int .i64 k ∧ Cg w5 wr (.slice (some ⟨w4.heap.size, 0, none⟩) 2 2) w4.heap.size vo (Ld ++ (Bq 8).take (18 * k))) (fun i _ _ => 2 - (intOf i).toNat)
    case atStart => exact ⟨0, by omega, rfl, by simpa using C2⟩
    case round =>
     clear C2 hge hlt hk
     obtain ⟨i, hi, rfl, C⟩ := hrel
     by_cases hlt : i < 2
     ·have hlt' : (i : Int) < 2 := by omega
      have hlen : (Ld ++ (Bq 8).take (18 * i)).length ≤ 50 := by rw [List.length_append, hlen2, List.length_take, hCL.out]; omega
      have h2 := hid (come8_two i hlt)
      go_upto_region 16 with fail
      go_wp2_with fail
      refine (hD _ _ _ _).mono ?_
      rintro _ w22 ⟨rfl, hb22⟩
      go_wp2_with fail
      refine (hD _ _ _ _).mono ?_
      rintro _ w23 ⟨rfl, hb23⟩
      have hb24 := below_alloc w23 (.cells #[.int .i64 0, .int .i64 5, .int .i64 0, .int .i64 0, .int .i64 0, .int .i64 0, .int .i64 0, .int .i64 5, .int .i64 1, .int .i64 0, .int .i64 0, .int .i64 0] 74)
      have hone : Gn.Lies kDd (w23.alloc (.cells #[.int .i64 0, .int .i64 5, .int .i64 0, .int .i64 0, .int .i64 0, .int .i64 0, .int .i64 0, .int .i64 5, .int .i64 1, .int .i64 0, .int .i64 0, .int .i64 0] 74)) (some ⟨w23.heap.size, 0, none⟩) 2 [⟨0, 5, 0, 0, 0, 0⟩, ⟨0, 5, 1, 0, 0, 0⟩] := Fg (K := kDd) (L := [⟨0, 5, 0, 0, 0, 0⟩, ⟨0, 5, 1, 0, 0, 0⟩]) (heap_alloc_at _ _ _ rfl) rfl (by simp [maxLen]) _
      have hbX := (hb22.trans (hb23.mono hb22.size)).trans (hb24.mono (Nat.le_trans hb22.size hb23.size))
      have hrow := C.row.below hbX
      have hsz := Nat.le_trans C.size hbX.size
      clear hb22 hb23 hb24
      go_upto_region 17 with (at_builtin; refine Ai elemDd _ rfl _ _ rfl w4.heap.size u5 (Ld ++ (Bq 8).take (18 * i)) rfl hrow _ 2 2 [⟨0, 5, 0, 0, 0, 0⟩, ⟨0, 5, 1, 0, 0, 0⟩] rfl rfl hone (by simp [maxLen] at hlen ⊢; omega) (by simp at hlen ⊢; omega) hsz ?_; intro v2 w24 hown hgrow hat hon)
      have C2 := C.grow hbX _ hown hgrow hat
      rw [List.append_assoc, ← h2.out] at C2
      clear hown hgrow hat hon C hrow hsz hbX hone h2 hlen
      go_upto_region 18 with fail
      go_loopw [62, 5] (fun x vo wr => ∃ j : Nat, j ≤ 2 ∧ x = .int .i64 j ∧ Cg w5 wr (.slice (some ⟨w4.heap.size, 0, none⟩) 2 2) w4.heap.size vo (Ld ++ (Bq 8).take (18 * i + 2 + 8 * j))) (fun x _ _ => 2 - (intOf x).toNat)
      case atStart => exact ⟨0, by omega, rfl, C2⟩
      case round =>
       clear C2
       obtain ⟨j, hj, rfl, C⟩ := hrel
       by_cases hjt : j < 2
       ·have hjt' : (j : Int) < 2 := by omega
        go_upto_region 21 with fail
        go_loopw [65, 5] (fun x vo wr => ∃ k : Nat, k ≤ 8 ∧ x = .int .i64 k ∧ Cg w5 wr (.slice (some ⟨w4.heap.size, 0, none⟩) 2 2) w4.heap.size vo (Ld ++ (Bq 8).take (18 * i + 2 + 8 * j + k))) (fun x _ _ => 8 - (intOf x).toNat)
        case atStart => exact ⟨0, by omega, rfl, C⟩
        case round =>
         clear C
         obtain ⟨k, hk, rfl, C⟩ := hrel
         by_cases hkt : k < 8
         ·have hkt' : (k : Int) < 8 := by omega
          have h3 := hid (come8_one i j k hlt hjt hkt)
          have hlen : (Ld ++ (Bq 8).take (18 * i + 2 + 8 * j + k)).length ≤ 50 := by rw [List.length_append, hlen2, List.length_take, hCL.out]; omega
          go_upto_region 22 with fail
          go_wp2_with fail
          refine (hD _ _ _ _).mono ?_
          rintro _ w33 ⟨rfl, hb33⟩
          have hb34 := below_alloc w33 (.cells #[.int .i64 0, .int .i64 6, .int .i64 j, .int .i64 0, .int .i64 0, .int .i64 0] 74)
          have hone : Gn.Lies kDd (w33.alloc (.cells #[.int .i64 0, .int .i64 6, .int .i64 j, .int .i64 0, .int .i64 0, .int .i64 0] 74)) (some ⟨w33.heap.size, 0, none⟩) 1 [⟨0, 6, j, 0, 0, 0⟩] := Fg (K := kDd) (L := [⟨0, 6, j, 0, 0, 0⟩]) (heap_alloc_at _ _ _ rfl) rfl (by simp [maxLen]) _
          have hbX := hb33.trans (hb34.mono hb33.size)
          have hrow := C.row.below hbX
          have hsz := Nat.le_trans C.size hbX.size
          clear hb33 hb34
          go_wp2_with (at_builtin; refine Ai elemDd _ rfl _ _ rfl w4.heap.size u5 (Ld ++ (Bq 8).take (18 * i + 2 + 8 * j + k)) rfl hrow _ 1 1 [⟨0, 6, j, 0, 0, 0⟩] rfl rfl hone (by simp [maxLen] at hlen ⊢; omega) (by simp at hlen ⊢; omega) hsz ?_; intro v2 w34 hown hgrow hat hon)
          have C2 := C.grow hbX _ hown hgrow hat
          rw [List.append_assoc, ← h3.out] at C2
          go_roundw
          case rel => exact ⟨k + 1, by omega, by go_num, C2⟩
          case measure => simp [intOf]; omega
         ·obtain rfl : k = 8 := by omega
          go_wp2_with fail
          go_roundw
          case rel => exact ⟨j + 1, by omega, by go_num, by rw [show 18 * i + 2 + 8 * (j + 1) = 18 * i + 2 + 8 * j + 8 by omega]; exact C⟩
          case measure => simp [intOf]; omega
       ·obtain rfl : j = 2 := by omega
        go_wp2_with fail
        go_roundw
        case rel => exact ⟨i + 1, by omega, by go_num, by rw [show 18 * (i + 1) = 18 * i + 2 + 8 * 2 by omega]; exact C⟩
        case measure => simp [intOf]; omega
     ·obtain rfl : i = 2 := by omega
      rw [List.take_of_length_le (by rw [hCL.out]; omega), hall.out] at C
      have hbwr : Below w.heap.size w wr := hbw5.trans (C.bel.mono hw4)
      clear hall hCL hlen2 hD hM hl5 hlw
      go_upto_region 26 with fail
      go_upto_region 27 with fail
      refine (hS _).mono ?_
      rintro _ w8 ⟨za, cz, rfl, hlp, hb8, hza⟩
      have hbw12 := hbwr.trans (hb8.mono hbwr.size)
      obtain ⟨al, cl, rfl, hd12, -⟩ := (C.row.below hb8).lies
      have hP1 := hP w8 _ _ _ _ hlp hd12 (O.keep (hbw12.block 0 O.lt))
      rw [dayL_len]
      clear hP hS hlp hd12 C hb8 hbwr
      go_upto_region 27 with (first
       | (go_at_call 18; refine hP1.mono ?_; rintro _ w2 ⟨v, cs, ds, va, rfl, SH, AP, hb3⟩; obtain ⟨G1, G2, G3, G4, G5⟩ := got_box w2 #[.int .i64 0, .bool false, .slice none 0 0, .slice none 0 0, .slice none 0 0, .int .i64 0, .slice none 0 0, .int .i64 0, .slice none 0 0, .int .i64 0, .int .i64 0, .slice none 0 0, .slice none 0 0, .int .i64 0, .slice none 0 0, .slice none 0 0, .slice none 0 0, .slice none 0 0, .slice none 0 0] rfl b v (0, 0); have hF1 := hF _ _ _ _ _ SH G5; replace G3 := Em G3; obtain ⟨t0, t1, t2, t3⟩ := Ed G2; obtain ⟨y0, y1, y2, y3⟩ := Ed G4; have hone := hid SH.one; have hinf : Hid ((Tryz.prog.info? 43).map (·.size) = some (Ag b v).size) := hid infoK; have hb4 : Below w.heap.size w _ := (hbw12.trans (hb3.mono hbw12.size)).trans (G5.mono ((hbw12.trans (hb3.mono hbw12.size)).size)); dsimp only at t0 t1 y0 y1 G3 hb4 hF1; clear G4 G5 SH AP G2 hP1 hF hbw12; generalize Ag b v = cc at *)
       | (refine wpList_store_mid rfl 43 _ _ rfl w2.heap.size 0 cc rfl rfl G1 hinf.out hone.out ?_))
      generalize ((((w2.alloc (.cells #[.int .i64 0, .bool false, .slice none 0 0, .slice none 0 0, .slice none 0 0, .int .i64 0, .slice none 0 0, .int .i64 0, .slice none 0 0, .int .i64 0, .int .i64 0, .slice none 0 0, .slice none 0 0, .int .i64 0, .slice none 0 0, .slice none 0 0, .slice none 0 0, .slice none 0 0, .slice none 0 0] 43)).alloc (.cells #[.int .i64 0, .int .i64 0] 47)).setCells w2.heap.size 0 cc.toList).setCell ⟨w2.heap.size + 1, 0, none⟩ (.int .i64 0)).setCell ⟨w2.heap.size + 1, 1, none⟩ (.int .i64 0) = Z at *
      obtain ⟨t, x, z1, o1, c1, z2, o2, c2, hR, hx, hvy, f1, lx, hvd, f3, hn0⟩ := hF1
      obtain ⟨-, -, -, q3, -, -, -, -, -, -, -, -, -, -, -, -, -, q17, -⟩ := G3
      rw [hvy] at q17
      rw [hvd] at q3
      have hPa := Dy.parse_any x.l (.slice x.a x.l.length x.cap) Z ⟨_, _, rfl, lx, x.fit⟩ (by rw [hx]; exact Dy.file_byt hR)
      unfold Dy.AnswersP at hPa
      rw [hx, Dy.turns hR] at hPa
      rw [hx] at f1
      have hN := fun (v' : Value) (Y : World) (sh : Int) (h : Dy.At Dy.kR Y v' (Dy.sortR t)) => Dy.net_any (Dy.sortR t) v' sh Y h hR.sort
      simp only [Dy.net_sort] at hN
      clear hvy hvd G1 t0 t1 t2 t3 hb3 hone hinf y1 y2 y3 lx
      go_upto_region 29 with fail
      go_upto_region 30 with fail
      refine hPa.mono ?_
      rintro _ Y2 ⟨v', rfl, hr', hb5⟩
      have hbY := hb4.trans (hb5.mono hb4.size)
      have hat := Dy.Row.at hr'
      obtain ⟨ar, cr, rfl, lr⟩ := hat
      have hN1 := fun (X : World) (h : Below Y2.heap.size Y2 X) => hN (.slice ar (Dy.sortR t).length cr) X 1 ⟨ar, cr, rfl, lr.below h⟩
      have hN0 := fun (X : World) (h : Below Y2.heap.size Y2 X) => hN (.slice ar (Dy.sortR t).length cr) X 0 ⟨ar, cr, rfl, lr.below h⟩
      rw [hn0] at hN0
      clear hN hPa hr' q17 f1
      have f3' := (hb5.cell (cell_lt f3)).trans f3
      have q3' := (hb5.cell (cell_lt q3)).trans q3
      clear f3 q3
      go_upto_region 30 with fail
      refine wp_region_held_drew (S := (fun V => Below Y2.heap.size Y2 V)) (by kernel_rfl) ((Below.refl _ _).drew) (fun hS => ?_)
      refine tk 0 (.int .i64 0) hS ?_ ?_
      ·intro w' _; go_simp
      refine tk 1 (.bool true) hS ?_ ?_
      ·intro w' _; go_simp
      refine tk 2 (.bool true) hS ?_ ?_
      ·intro w' _; go_simp
      refine tk 3 (.slice ar (Dy.sortR t).length cr) hS ?_ ?_
      ·intro w' _; go_simp
      try simp only [List.getElem_toArray, List.getElem_cons_zero, List.getElem_cons_succ, Act.put, List.setIfInBounds_toArray, List.set_cons_zero, List.set_cons_succ]
      refine tk 5 (.pointer (some ⟨w2.heap.size, 3, none⟩)) hS ?_ ?_
      ·intro w' _; go_simp
      refine tk 6 (.slice (some ⟨z2, o2, none⟩) 2 c2) hS ?_ ?_
      ·intro w' hS'; have q0 := (hS'.cell (cell_lt q3')).trans q3'; go_simp
      refine tk 7 (.pointer (some ⟨z2, o2 + 1, none⟩)) hS ?_ ?_
      ·intro w' _; go_simp
      refine tk 8 (.int .i64 (Dy.net 1 t)) hS ?_ ?_
      ·intro w' hS'; have q0 := (hS'.cell (cell_lt f3')).trans f3'; go_simp
      try simp only [List.getElem_toArray, List.getElem_cons_zero, List.getElem_cons_succ, Act.put, List.setIfInBounds_toArray, List.set_cons_zero, List.set_cons_succ]
      try simp only [List.getElem_toArray, List.getElem_cons_zero, List.getElem_cons_succ, Act.put, List.setIfInBounds_toArray, List.set_cons_zero, List.set_cons_succ]
      refine rd 4 (.cons rfl (fun K hK => ?_) .nil)
      go_simp
      refine (hN1 _ ((Below.refl _ _).drew)).mono ?_
      rintro _ Y3 ⟨rfl, hb3⟩
      go_simp
      refine hK.out _ _ (((Below.refl _ _).drew).trans hb3) (fun hS => ?_)
      clear hK K
      refine tk 9 (.bool true) hS ?_ ?_
      ·intro w' _; go_simp
      refine tk 10 (.bool true) hS ?_ ?_
      ·intro w' _; go_simp
      refine tk 11 (.bool true) hS ?_ ?_
      ·intro w' _; go_simp
      refine tk 12 (.slice ar (Dy.sortR t).length cr) hS ?_ ?_
      ·intro w' _; go_simp
      try simp only [List.getElem_toArray, List.getElem_cons_zero, List.getElem_cons_succ, Act.put, List.setIfInBounds_toArray, List.set_cons_zero, List.set_cons_succ]
      try simp only [List.getElem_toArray, List.getElem_cons_zero, List.getElem_cons_succ, Act.put, List.setIfInBounds_toArray, List.set_cons_zero, List.set_cons_succ]
      refine rd 13 (.cons rfl (fun K hK => ?_) .nil)
      go_simp
      refine (hN0 _ (((Below.refl _ _).drew).trans hb3)).mono ?_
      rintro _ Y4 ⟨rfl, hb4'⟩
      go_simp
      refine hK.out _ _ ((((Below.refl _ _).drew).trans hb3).trans (hb4'.mono (((Below.refl _ _).drew).trans hb3).size)) (fun hS => ?_)
      clear hK K
      refine tk 14 (.bool true) hS ?_ ?_
      ·intro w' _; go_simp
      refine tk 15 (.bool true) hS ?_ ?_
      ·intro w' _; go_simp
      refine tk 16 (.bool true) hS ?_ ?_
      ·intro w' _; go_simp
      try simp only [List.getElem_toArray, List.getElem_cons_zero, List.getElem_cons_succ, Act.put, List.setIfInBounds_toArray, List.set_cons_zero, List.set_cons_succ]
      refine wpAnyH_done (by kernel_rfl) ?_ _
      have hbf := hbY.trans (((((Below.refl _ _).drew).trans hb3).trans (hb4'.mono (((Below.refl _ _).drew).trans hb3).size)).mono hbY.size)
      go_wp2_with fail
      exact bodyPost_ret (results_tmp Tryz.results16 _ _ _) rfl ⟨rfl, hbf⟩
