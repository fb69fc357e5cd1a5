/- The walk of the law PostTells. -/
import Derived.Test.YtffgglkobngddabPoh
import Derived.Test.YtffgglkobngddabPoi
namespace Go.Proofs.Ytffgglkobngddab.Po
open Go.RowKit Go.Proofs.Ytffgglkobngddab.Gn

/-- What the law holds on to: the sender's box, the transfer's. -/
structure Te (w : World) (s : Se) (a : Option Addr) (cap : Nat) (t : Tr) (W : World) : Prop where
  bel : Below w.heap.size w W
  box : W.heap[w.heap.size]? = some (so s a cap)
  tb : W.heap[w.heap.size + 1]? = some (tob t)

theorem Te.on {w : World} {s : Se} {a : Option Addr} {cap : Nat} {t : Tr} {W W' : World} (h : Te w s a cap t W) (hb : Below W.heap.size W W') : Te w s a cap t W' :=
  ⟨h.bel.trans (hb.mono h.bel.size), (hb.block _ (lt_of_block h.box)).trans h.box, (hb.block _ (lt_of_block h.tb)).trans h.tb⟩
theorem Te.lt {w : World} {s : Se} {a : Option Addr} {cap : Nat} {t : Tr} {W : World} (h : Te w s a cap t W) : w.heap.size + 1 < W.heap.size := lt_of_block h.tb

/-- A sender that is written anew into a block of its own. -/
def put2 (W : World) (b : Nat) (s : Se) (a : Option Addr) (cap : Nat) : World := (W.setCell ⟨b, 0, none⟩ (.int .i64 s.sent)).setCell ⟨b, 1, none⟩ (.slice a s.kept.length cap)
theorem put2_same {W : World} {b : Nat} {s : Se} {a : Option Addr} {cap : Nat} (h : W.heap[b]? = some (so s a cap)) (s' : Se) (a' : Option Addr) (cap' : Nat) : (put2 W b s' a' cap').heap[b]? = some (so s' a' cap') := so_put h s'.sent s'.kept a' cap'
theorem put2_other (W : World) (b k : Nat) (s' : Se) (a' : Option Addr) (cap' : Nat) (h : k ≠ b) : (put2 W b s' a' cap').heap[k]? = W.heap[k]? := by
  unfold put2
  rw [heap_setCell_other _ ⟨b, 1, none⟩ _ _ h, heap_setCell_other _ ⟨b, 0, none⟩ _ _ h]
theorem put2_below {B : Nat} {w W : World} (hb : Below B w W) (b : Nat) (h : B ≤ b) (s' : Se) (a' : Option Addr) (cap' : Nat) : Below B w (put2 W b s' a' cap') := by
  have h0 : B ≤ (⟨b, 0, none⟩ : Addr).block := h
  have h1 : B ≤ (⟨b, 1, none⟩ : Addr).block := h
  exact (hb.setCell h0 _).setCell h1 _
theorem put2_row {W : World} {e : TypeId} {base : Nat} {v : Value} {L : List Tr} (h : Row kT e W base v L) (b : Nat) (hb : b < base) (s' : Se) (a' : Option Addr) (cap' : Nat) : Row kT e (put2 W b s' a' cap') base v L :=
  Row.set (Row.set h ⟨b, 0, none⟩ hb _) ⟨b, 1, none⟩ hb _
theorem put2_size (W : World) (b : Nat) (s' : Se) (a' : Option Addr) (cap' : Nat) : (put2 W b s' a' cap').heap.size = W.heap.size := by simp [put2]

theorem row_at {e : TypeId} {W : World} {base : Nat} {v : Value} {L : List Tr} (h : Row kT e W base v L) : ∃ a cap, v = .slice a L.length cap ∧ Row kT e W base (.slice a L.length cap) L ∧ Lies kT W a cap L := by
  obtain ⟨a, cap, rfl, hl, -, -⟩ := h.lies
  exact ⟨a, cap, rfl, h, hl⟩

set_option maxHeartbeats 8000000 in
theorem tells_any (s : Se) (a : Option Addr) (cap : Nat) (t : Tr) (seen : Int) (w : World) (hL : Lies kT w a cap s.kept) (hfit : Fit s.kept) :
    Calls Try.prog 6 #[sv s a cap, tv t, .int .i64 seen] w fun e w' => e = .returned (.bool true) ∧ Below w.heap.size w w' := by
  have T0 : Te w s a cap t ((w.alloc (so s a cap)).alloc (tob t)) :=
    ⟨(below_alloc _ _).alloc (by simp) _, by rw [Below.heap_alloc _ _ _ (by simp), heap_alloc_at _ _ _ rfl], heap_alloc_at _ _ _ (by simp)⟩
  unfold so tob at T0
  unfold sv tv
  go_enter Try.func6, Try.ntmps6
  go_upto_region 1 with fail
  generalize (w.alloc (.cells #[.int .i64 s.sent, .slice a s.kept.length cap] 40)).alloc (.cells #[.int .i64 t.n, .int .i64 t.k, .int .i64 t.a, .int .i64 t.s] 42) = W at *
  go_cut [18] from 14 to 19 (fun v wc => v = .bool false ∧ Te w s a cap t wc)
  case first =>
    obtain ⟨B0, B1⟩ := so_cells T0.box
    generalize hr1 : (wrongS s).1 = r1
    generalize hr2 : (wrongS s).2 = r2
    go_region_with (first
      | (go_at_call 16; refine (wrong_any s a cap _ ?_).mono ?_; first | exact hL.below T1.bel | exact hL.below T0.bel.drew
         rw [hr1, hr2]
         rintro e w1 ⟨rfl, hb1⟩
         first | (have T2 := T1.on hb1) | (have T1 := T0.on (((Below.refl _ _).drew).trans hb1); obtain ⟨C0, C1⟩ := so_cells T1.box)
         clear hb1)
      | (go_at_call 17; refine (refWrong_any s a cap _ ?_ hfit).mono ?_; first | exact hL.below T1.bel | exact hL.below T0.bel.drew
         rw [hr1, hr2]
         rintro e w1 ⟨rfl, hb1⟩
         first | (have T2 := T1.on hb1) | (have T1 := T0.on (((Below.refl _ _).drew).trans hb1); obtain ⟨C0, C1⟩ := so_cells T1.box)
         clear hb1))
    all_goals (go_wp2_with fail; go_meet; exact ⟨rfl, T2⟩)
  case rest =>
    obtain ⟨rfl, T1⟩ := hcut
    generalize wc = W1 at *
    clear T0
    obtain ⟨B0, B1⟩ := so_cells T1.box
    obtain ⟨X0, X1, X2, X3⟩ := tob_cells T1.tb
    go_wp2_with fail
    refine (put_any s a cap t _ (hL.below T1.bel)).mono ?_
    generalize hP : putS s t = P
    obtain ⟨p, q⟩ := P
    rintro e w2 ⟨v2, rfl, hrow2, hb2⟩
    obtain ⟨a2, cap2, rfl, -, hl2⟩ := row_at hrow2
    have T2 := T1.on hb2
    clear hb2 hrow2 B0 B1 X0 X1 X2 X3 T1
    dsimp only at hl2 ⊢
    have T3 := T2.on (below_alloc w2 (so p a2 cap2))
    have hl3 := hl2.alloc (so p a2 cap2)
    have hD : (w2.alloc (so p a2 cap2)).heap[w2.heap.size]? = some (so p a2 cap2) := heap_alloc_at _ _ _ rfl
    have hlt3 := T2.lt
    unfold so at T3 hl3 hD
    go_upto_region 4 with fail
    generalize w2.alloc (.cells #[.int .i64 p.sent, .slice a2 p.kept.length cap2] 40) = W3 at *
    clear T2 hl2
    generalize w2.heap.size = D at *
    obtain ⟨B0, B1⟩ := so_cells T3.box
    obtain ⟨X0, X1, X2, X3⟩ := tob_cells T3.tb
    go_wp2_with fail
    refine (refPut_any s a cap t _ (hL.below T3.bel) hfit).mono ?_
    rw [hP]
    rintro e w4 ⟨v4, rfl, hrow4, hb4⟩
    obtain ⟨a4, cap4, rfl, -, hl4⟩ := row_at hrow4
    have T4 := T3.on hb4
    have hl34 := hl3.below hb4
    have hD4 := (hb4.block _ (lt_of_block hD)).trans hD
    clear hb4 hrow4 B0 B1 X0 X1 X2 X3 T3 hl3 hD
    dsimp only at hl4 ⊢
    have T5 := T4.on (below_alloc w4 (so p a4 cap4))
    have hl35 := hl34.alloc (so p a4 cap4)
    have hl5 := hl4.alloc (so p a4 cap4)
    have hD5 := (Below.heap_alloc w4 (so p a4 cap4) _ (lt_of_block hD4)).trans hD4
    have hE5 : (w4.alloc (so p a4 cap4)).heap[w4.heap.size]? = some (so p a4 cap4) := heap_alloc_at _ _ _ rfl
    have hlt5 := lt_of_block hD4
    unfold so at T5 hl35 hl5 hD5 hE5
    go_upto_region 5 with fail
    generalize w4.alloc (.cells #[.int .i64 p.sent, .slice a4 p.kept.length cap4] 40) = W5 at *
    clear T4 hl34 hl4 hD4
    generalize w4.heap.size = E at *
    obtain ⟨D0, D1⟩ := so_cells hD5
    obtain ⟨E0, E1⟩ := so_cells hE5
    go_wp2_with fail
    refine (same_any p a2 cap2 a4 cap4 _ hl35 hl5).mono ?_
    rintro e w6 ⟨rfl, hb6⟩
    have T6 := T5.on hb6
    have hD6 := (hb6.block _ (lt_of_block hD5)).trans hD5
    have hE6 := (hb6.block _ (lt_of_block hE5)).trans hE5
    clear hb6 hl35 hl5 D0 D1 E0 E1 T5 hD5 hE5 hP
    obtain ⟨B0, B1⟩ := so_cells T6.box
    go_upto_region 7 with fail
    go_wp2_with fail
    refine (back_any s a cap seen _ (hL.below T6.bel)).mono ?_
    generalize hP : backS s seen = P
    obtain ⟨x, y⟩ := P
    rintro e w7 ⟨v7, rfl, hrow7, hb7⟩
    obtain ⟨a7, cap7, rfl, hr7, -⟩ := row_at hrow7
    have T7 := T6.on hb7
    have hD7 := (hb7.block _ (lt_of_block hD6)).trans hD6
    have hE7 := (hb7.block _ (lt_of_block hE6)).trans hE6
    have hr7 := hr7.mono (lt_of_block hE6)
    clear hb7 hrow7 B0 B1 T6 hD6 hE6
    dsimp only at hr7 ⊢
    obtain ⟨D0, D1⟩ := so_cells hD7
    obtain ⟨F0, F1⟩ := so_free hD7
    go_upto_region 8 with fail
    have T8 : Te w s a cap t (put2 w7 D x a7 cap7) := ⟨put2_below T7.bel D (by omega) _ _ _, (put2_other _ _ _ _ _ _ (by omega)).trans T7.box, (put2_other _ _ _ _ _ _ (by omega)).trans T7.tb⟩
    have hD8 := put2_same hD7 x a7 cap7
    have hE8 := (put2_other w7 D E x a7 cap7 (by omega)).trans hE7
    have hr8 := put2_row hr7 D (by omega) x a7 cap7
    unfold put2 at T8 hD8 hE8 hr8
    clear D0 D1 F0 F1 T7 hD7 hE7 hr7
    generalize (w7.setCell ⟨D, 0, none⟩ (.int .i64 x.sent)).setCell ⟨D, 1, none⟩ (.slice a7 x.kept.length cap7) = W8 at *
    obtain ⟨B0, B1⟩ := so_cells T8.box
    go_wp2_with fail
    refine (refBack_any s a cap seen _ (hL.below T8.bel) hfit).mono ?_
    rw [hP]
    rintro e w9 ⟨v9, rfl, hrow9, hb9⟩
    obtain ⟨a9, cap9, rfl, hr9, -⟩ := row_at hrow9
    have T9 := T8.on hb9
    have hD9 := (hb9.block _ (lt_of_block hD8)).trans hD8
    have hE9 := (hb9.block _ (lt_of_block hE8)).trans hE8
    have hr9 := hr9.mono (lt_of_block hE8)
    have hr79 := hr8.below hb9
    clear hb9 hrow9 B0 B1 T8 hD8 hE8 hr8
    dsimp only at hr9 ⊢
    obtain ⟨D0, D1⟩ := so_cells hE9
    obtain ⟨F0, F1⟩ := so_free hE9
    go_upto_region 9 with fail
    have T10 : Te w s a cap t (put2 w9 E x a9 cap9) := ⟨put2_below T9.bel E (by omega) _ _ _, (put2_other _ _ _ _ _ _ (by omega)).trans T9.box, (put2_other _ _ _ _ _ _ (by omega)).trans T9.tb⟩
    have hE10 := put2_same hE9 x a9 cap9
    have hD10 := (put2_other w9 E D x a9 cap9 (by omega)).trans hD9
    have hr10 := put2_row hr9 E (by omega) x a9 cap9
    have hr710 := put2_row hr79 E (by omega) x a9 cap9
    unfold put2 at T10 hD10 hE10 hr10 hr710
    clear D0 D1 F0 F1 T9 hD9 hE9 hr9 hr79
    generalize (w9.setCell ⟨E, 0, none⟩ (.int .i64 x.sent)).setCell ⟨E, 1, none⟩ (.slice a9 x.kept.length cap9) = W10 at *
    obtain ⟨D0, D1⟩ := so_cells hD10
    obtain ⟨E0, E1⟩ := so_cells hE10
    have hla : Lies kT W10 a7 cap7 x.kept := by
      obtain ⟨a', cap', h', -, hl⟩ := row_at hr710
      obtain ⟨rfl, -, rfl⟩ := Value.slice.inj h'
      exact hl
    have hlb : Lies kT W10 a9 cap9 x.kept := by
      obtain ⟨a', cap', h', -, hl⟩ := row_at hr10
      obtain ⟨rfl, -, rfl⟩ := Value.slice.inj h'
      exact hl
    go_wp2_with fail
    refine (same_any x a7 cap7 a9 cap9 _ hla hlb).mono ?_
    rintro e w11 ⟨rfl, hb11⟩
    have T11 := T10.on hb11
    clear hb11 hla hlb hr10 hr710 D0 D1 E0 E1 T10 hD10 hE10 hP
    obtain ⟨X0, X1, X2, X3⟩ := tob_cells T11.tb
    go_upto_region 11 with fail
    go_wp2_with fail
    refine (take_any seen t _).mono ?_
    rintro e w12 ⟨rfl, hb12⟩
    have T12 := T11.on hb12
    clear hb12 X0 X1 X2 X3 T11
    obtain ⟨X0, X1, X2, X3⟩ := tob_cells T12.tb
    have bb := T12.bel
    rcases taken_ways seen t.n with ⟨h1, H⟩ | ⟨h1, h2, H⟩ | ⟨h1, h2, h3, H⟩ | ⟨h1, h2, h3, H, H2⟩
    · rw [H.out, took_false H.out]
      go_wp2
      go_ret
      exact ⟨rfl, bb⟩
    · rw [H.out, took_false H.out]
      go_wp2
      go_ret
      exact ⟨rfl, bb⟩
    · rw [H.out, took_false H.out]
      have h4 : (t.n == seen + 1) = false := by simpa using h3
      go_wp2
      go_ret
      exact ⟨rfl, bb⟩
    · rw [H.out, took_true H.out]
      have h4 : (t.n == seen + 1) = true := by simpa using h3
      go_wp2
      go_ret
      exact ⟨rfl, bb⟩
end Go.Proofs.Ytffgglkobngddab.Po
