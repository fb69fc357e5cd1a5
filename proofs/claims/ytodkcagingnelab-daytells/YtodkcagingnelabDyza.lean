/- The walk of DayTells. -/
import Derived.Test.YtodkcagingnelabDyy
import Derived.Test.YtodkcagingnelabDyz
import Derived.Test.YtodkcagingnelabDyv
namespace Go.Proofs.Ytodkcagingnelab.Dy
open Go.RowKit Go.Proofs.Ytodkcagingnelab.Gn

theorem stringOf {w : World} {a : Option Addr} {cap : Nat} {L : List Int} (h : Lies kB w a cap L) : (convert 75 9 (.slice a L.length cap)).run Try.prog w = .ok (.string (strOf L)) w :=
  run_string_of Try.underlying75 Try.underlying5 Try.underlying9 h
theorem fl_cells {W : World} {z : Nat} {x y : Int} (h : W.heap[z]? = some (.cells #[.int .i64 x, .int .i64 y] 44)) : W.cell? ⟨z, 0, none⟩ = some (.int .i64 x) ∧ W.cell? ⟨z, 1, none⟩ = some (.int .i64 y) := by
  refine ⟨?_, ?_⟩ <;> simp [World.cell?, h]
theorem fieldE (x y : Int) (w : World) : (Instr.field 44 (.agg #[.int .i64 x, .int .i64 y]) 0).run Try.prog w = .ok (.int .i64 x) w := by kernel_rfl

set_option maxRecDepth 10000 in
set_option maxHeartbeats 4000000 in
theorem dayTells_at (a : Option Addr) (c : Nat) (L : List Rc) (shop : Int) (a2 : Option Addr) (c2 : Nat) (b : List Int) (w : World) (hl : Lies kR w a c L) (hb : Lies kB w a2 c2 b ∧ Byt b ∧ b.length ≤ c2) (hN : L.length * 32 ≤ 140737488355328) :
    Calls Try.prog 12 #[.slice a L.length c, .int .i64 shop, .slice a2 b.length c2] w fun e w' => e = .returned (.bool true) ∧ Below w.heap.size w w' := by
  have hfd := fieldE
  have hL : At kR w (.slice a L.length c) L := ⟨a, c, rfl, hl⟩
  have hBb : AtC kB w (.slice a2 b.length c2) b := ⟨a2, c2, rfl, hb.1, hb.2.2⟩
  have hByt := hb.2.1
  have hB1 : ∀ X : World, Below w.heap.size w X → Calls Try.prog 40 #[.slice a L.length c] X (AnswersB X (bytesR L)) := fun X hX => bytes_any L _ X (hL.below hX)
  have hB2 : ∀ X : World, Below w.heap.size w X → Calls Try.prog 41 #[.slice a L.length c] X (AnswersB X (bytesR L)) := fun X hX => refBytes_any L _ X (hL.below hX)
  have hW1 : ∀ X : World, Below w.heap.size w X → Calls Try.prog 42 #[.slice a L.length c] X fun e w' => e = .returned (.agg #[.int .i64 (wrongL L).1, .int .i64 (wrongL L).2]) ∧ Below X.heap.size X w' := fun X hX => wrong_any L _ X (hL.below hX)
  have hW2 : ∀ X : World, Below w.heap.size w X → Calls Try.prog 43 #[.slice a L.length c] X fun e w' => e = .returned (.agg #[.int .i64 (wrongL L).1, .int .i64 (wrongL L).2]) ∧ Below X.heap.size X w' := fun X hX => refWrong_any L _ X (hL.below hX)
  have hS1 : ∀ X : World, Below w.heap.size w X → Calls Try.prog 45 #[.slice a L.length c] X (AnswersR X (sortR L)) := fun X hX => sorted_any L _ X (hL.below hX) hN
  have hS2 : ∀ X : World, Below w.heap.size w X → Calls Try.prog 46 #[.slice a L.length c] X fun e w' => ∃ v', e = .returned v' ∧ Row kR 87 w' X.heap.size v' (sortR L) ∧ Below X.heap.size X w' := fun X hX => refSorted_any L _ X (hL.below hX) hN
  have hSa : ∀ (l : List Rc) (X : World) (p q : Value), At kR X p l → At kR X q l → Calls Try.prog 44 #[p, q] X fun e w' => e = .returned (.bool true) ∧ Below X.heap.size X w' := fun l X p q hp hq => by have := sameAny l l p q X hp hq; rw [sameL_true.2 rfl] at this; exact this
  have hN1 : (wrongL L).1 = 0 → ∀ X : World, Below w.heap.size w X → Calls Try.prog 47 #[.slice a L.length c, .int .i64 shop] X fun e w' => e = .returned (.int .i64 (net shop L)) ∧ Below X.heap.size X w' := fun h X hX => net_any L _ shop X (hL.below hX) (wrong_ok.1 h)
  have hN2 : (wrongL L).1 = 0 → ∀ X : World, Below w.heap.size w X → Calls Try.prog 48 #[.slice a L.length c, .int .i64 shop] X fun e w' => e = .returned (.int .i64 (net shop L)) ∧ Below X.heap.size X w' := fun h X hX => refNet_any L _ shop X (hL.below hX) (wrong_ok.1 h)
  have hP1 : ∀ X : World, Below w.heap.size w X → Calls Try.prog 49 #[.slice a2 b.length c2] X (AnswersP X (parseR b)) := fun X hX => parse_any b _ X (hBb.below hX) hByt
  have hP2 : ∀ X : World, Below w.heap.size w X → Calls Try.prog 50 #[.slice a2 b.length c2] X (AnswersP X (parseR b)) := fun X hX => refParse_any b _ X (hBb.below hX) hByt
  unfold AnswersB fv at hB1 hB2
  unfold AnswersP at hP1 hP2
  clear hl hb hL hBb hByt hN
  generalize net shop L = nn at *
  generalize (bytesR L).1 = bs at *
  generalize (bytesR L).2.1 = f1 at *
  generalize (bytesR L).2.2 = f2 at *
  generalize (parseR b).1 = ps at *
  generalize (parseR b).2 = pe at *
  generalize sortR L = S at *
  have hHW : Hid (∃ e, e = (wrongL L).1) := ⟨_, rfl⟩
  go_enter Try.func12, Try.ntmps12
  go_upto_region 2 with (go_at_call 40; refine (hB1 _ (Below.refl _ _)).mono ?_; rintro e w1 ⟨v1, rfl, hr1, hb1⟩)
  have hb1a := bel_alloc hb1 (.cells #[.int .i64 f1, .int .i64 f2] 44)
  have hr1a := hr1.alloc (.cells #[.int .i64 f1, .int .i64 f2] 44)
  have hF1 : (w1.alloc (.cells #[.int .i64 f1, .int .i64 f2] 44)).heap[w1.heap.size]? = some (.cells #[.int .i64 f1, .int .i64 f2] 44) := heap_alloc_at _ _ _ rfl
  generalize w1.alloc (.cells #[.int .i64 f1, .int .i64 f2] 44) = W1 at *
  generalize w1.heap.size = Z1 at *
  clear hb1 hr1
  go_upto_region 3 with (go_at_call 41; refine (hB2 _ hb1a).mono ?_; rintro e w2 ⟨v2, rfl, hr2, hb2⟩)
  have hb2a : Below w.heap.size w (w2.alloc (.cells #[.int .i64 f1, .int .i64 f2] 44)) := bel_alloc (hb1a.trans (hb2.mono hb1a.size)) _
  have hr1b := (hr1a.below hb2).alloc (.cells #[.int .i64 f1, .int .i64 f2] 44)
  have hr2b := hr2.alloc (.cells #[.int .i64 f1, .int .i64 f2] 44)
  have hz1 := lt_of_block hF1
  have hz2 : Z1 < w2.heap.size := Nat.lt_of_lt_of_le hz1 hb2.size
  have hF1b : (w2.alloc (.cells #[.int .i64 f1, .int .i64 f2] 44)).heap[Z1]? = some (.cells #[.int .i64 f1, .int .i64 f2] 44) := (heap_alloc_old _ _ hz2).trans ((hb2.block _ hz1).trans hF1)
  have hF2b : (w2.alloc (.cells #[.int .i64 f1, .int .i64 f2] 44)).heap[w2.heap.size]? = some (.cells #[.int .i64 f1, .int .i64 f2] 44) := heap_alloc_at _ _ _ rfl
  generalize w2.alloc (.cells #[.int .i64 f1, .int .i64 f2] 44) = W2 at *
  generalize w2.heap.size = Z2 at *
  clear hb2 hr1a hr2 hF1 hb1a
  obtain ⟨p0, p1⟩ := fl_cells hF1b
  obtain ⟨p2, p3⟩ := fl_cells hF2b
  obtain ⟨a3, c3, rfl, -, hl3⟩ := row_at hr1b
  obtain ⟨a4, c4, rfl, -, hl4⟩ := row_at hr2b
  have s1 := stringOf hl3
  have s2 := stringOf hl4
  generalize strOf bs = sb at *
  obtain ⟨e1, he1⟩ : ∃ e, Hid (e = (wrongL L).1) := ⟨_, rfl⟩
  obtain ⟨e2, he2⟩ : ∃ e, Hid (e = (wrongL L).2) := ⟨_, rfl⟩
  rw [← he1.out] at hW1 hW2 hN1 hN2
  rw [← he2.out] at hW1 hW2
  have hfirst : Hid True := trivial
  go_upto_region 5 with (first
    | (go_at_call 42; refine (hW1 _ hb2a).mono ?_; rintro e w3 ⟨rfl, hb3⟩; have hb3a : Below w.heap.size w w3 := hb2a.trans (hb3.mono hb2a.size))
    | (go_at_call 43; refine (hW2 _ hb3a).mono ?_; rintro e w4 ⟨rfl, hb4⟩; have hb4a : Below w.heap.size w w4 := hb3a.trans (hb4.mono hb3a.size))
    | (go_at_call 45; refine (hS1 _ hb4a).mono ?_; rintro e w5 ⟨a5, c5, rfl, hl5, -, -, hb5⟩; have hb5a : Below w.heap.size w w5 := hb4a.trans (hb5.mono hb4a.size))
    | (go_at_call 46; refine (hS2 _ hb5a).mono ?_; rintro e w6 ⟨v6, rfl, hr6, hb6⟩; have hb6a : Below w.heap.size w w6 := hb5a.trans (hb6.mono hb5a.size); have hl6 := hl5.below hb6)
    | (go_at_call 44; refine (hSa S _ _ _ ⟨a5, c5, rfl, hl6⟩ (Row.at hr6)).mono ?_; rintro e w7 ⟨rfl, hb7⟩; have hb7a : Below w.heap.size w w7 := hb6a.trans (hb7.mono hb6a.size)))
  by_cases hw : e1 = 0
  · have M1 := hN1 hw
    have M2 := hN2 hw
    have hw' : (e1 == 0) = true := by simpa using hw
    have hq : (nn != nn) = false := by simp
    clear hw hN1 hN2
    go_upto_region 7 with (first
      | (go_at_call 43; refine (hW2 _ hb7a).mono ?_; rintro e w8 ⟨rfl, hb8⟩; have hb8a : Below w.heap.size w w8 := hb7a.trans (hb8.mono hb7a.size))
      | (go_at_call 47; refine (M1 _ hb8a).mono ?_; rintro e w9 ⟨rfl, hb9⟩; have hb9a : Below w.heap.size w w9 := hb8a.trans (hb9.mono hb8a.size))
      | (go_at_call 48; refine (M2 _ hb9a).mono ?_; rintro e wx ⟨rfl, hbx⟩; have hbxa : Below w.heap.size w wx := hb9a.trans (hbx.mono hb9a.size)))
    go_upto_region 8 with (go_at_call 49; refine (hP1 _ hbxa).mono ?_; rintro e y1 ⟨q1, rfl, k1, hy1⟩)
    have hy1a : Below w.heap.size w y1 := hbxa.trans (hy1.mono hbxa.size)
    go_upto_region 9 with (go_at_call 50; refine (hP2 _ hy1a).mono ?_; rintro e y2 ⟨q2, rfl, k2, hy2⟩)
    have hy2a : Below w.heap.size w y2 := hy1a.trans (hy2.mono hy1a.size)
    have k1a := Row.at (k1.below hy2)
    have k2a := Row.at k2
    have hpe : (pe == pe) = true := by simp
    go_wp2_with (go_at_call 44; refine (hSa ps _ _ _ k1a k2a).mono ?_; rintro e y3 ⟨rfl, hy3⟩)
    go_ret
    exact ⟨rfl, hy2a.trans (hy3.mono hy2a.size)⟩
  · have hw' : (e1 == 0) = false := by simpa using hw
    clear hw hN1 hN2
    go_upto_region 7 with (go_at_call 43; refine (hW2 _ hb7a).mono ?_; rintro e w8 ⟨rfl, hb8⟩)
    have hbxa : Below w.heap.size w w8 := hb7a.trans (hb8.mono hb7a.size)
    go_upto_region 8 with (go_at_call 49; refine (hP1 _ hbxa).mono ?_; rintro e y1 ⟨q1, rfl, k1, hy1⟩)
    have hy1a : Below w.heap.size w y1 := hbxa.trans (hy1.mono hbxa.size)
    go_upto_region 9 with (go_at_call 50; refine (hP2 _ hy1a).mono ?_; rintro e y2 ⟨q2, rfl, k2, hy2⟩)
    have hy2a : Below w.heap.size w y2 := hy1a.trans (hy2.mono hy1a.size)
    have k1a := Row.at (k1.below hy2)
    have k2a := Row.at k2
    have hpe : (pe == pe) = true := by simp
    go_wp2_with (go_at_call 44; refine (hSa ps _ _ _ k1a k2a).mono ?_; rintro e y3 ⟨rfl, hy3⟩)
    go_ret
    exact ⟨rfl, hy2a.trans (hy3.mono hy2a.size)⟩
end Go.Proofs.Ytodkcagingnelab.Dy
