/- The walk of DaySorted. -/
import Derived.Test.YtkkgojdefjoajabDyp
import Derived.Test.YtkkgojdefjoajabDyr
import Derived.Test.YtkkgojdefjoajabDyl
namespace Go.Proofs.Ytkkgojdefjoajab.Dy
open Go.RowKit Go.Proofs.Ytkkgojdefjoajab.Gn

theorem fieldErr (x y : Int) (w : World) : (Instr.field 44 (.agg #[.int .i64 x, .int .i64 y]) 0).run Try.prog w = .ok (.int .i64 x) w := by kernel_rfl

/-- What stands while two lists of one permission's records grow: the sorted list, the record at hand, the two. -/
structure Tw (w W : World) (a : Option Addr) (cap : Nat) (S : List Rc) (u1 : Value) (C1 : List Rc) (u2 : Value) (C2 : List Rc) (Z : Nat) (r : Rc) : Prop where
  bel : Below w.heap.size w W
  lies : Lies kR W a cap S
  lt : ∀ ad, a = some ad → ad.block < W.heap.size
  row1 : Row kR 87 W w.heap.size u1 C1
  row2 : Row kR 87 W w.heap.size u2 C2
  ne1 : ∀ ad, a = some ad → u1.ownBlock ≠ some ad.block
  ne2 : ∀ ad, a = some ad → u2.ownBlock ≠ some ad.block
  ap : ∀ k, u1.ownBlock = some k → u2.ownBlock ≠ some k
  box : W.heap[Z]? = some (rob r)
  z1 : u1.ownBlock ≠ some Z
  z2 : u2.ownBlock ≠ some Z
theorem Tw.on {w W W' : World} {a : Option Addr} {cap : Nat} {S : List Rc} {u1 : Value} {C1 : List Rc} {u2 : Value} {C2 : List Rc} {Z : Nat} {r : Rc} (h : Tw w W a cap S u1 C1 u2 C2 Z r) (hb : Below W.heap.size W W') : Tw w W' a cap S u1 C1 u2 C2 Z r :=
  ⟨h.bel.trans (hb.mono h.bel.size), h.lies.below hb, fun ad ha => Nat.lt_of_lt_of_le (h.lt ad ha) hb.size, h.row1.below hb, h.row2.below hb, h.ne1, h.ne2, h.ap, (hb.block _ (lt_of_block h.box)).trans h.box, h.z1, h.z2⟩
theorem Tw.grow1 {w W W' : World} {a : Option Addr} {cap : Nat} {S : List Rc} {u1 u1' : Value} {C1 C1' : List Rc} {u2 : Value} {C2 : List Rc} {Z : Nat} {r : Rc} (h : Tw w W a cap S u1 C1 u2 C2 Z r) (hr : Row kR 87 W' w.heap.size u1' C1') (hg : W.grownBy W' u1.ownBlock) (ha : ∀ k, u1'.ownBlock = some k → u1.ownBlock = some k ∨ W.heap.size ≤ k) : Tw w W' a cap S u1' C1' u2 C2 Z r := by
  have hz := lt_of_block h.box
  refine ⟨below_grown h.bel hg h.row1 (Nat.le_refl _) h.bel.size, h.lies.grown hg h.ne1, fun ad had => Nat.lt_of_lt_of_le (h.lt ad had) hg.size, hr, h.row2.grown hg (fun k hk h1 => h.ap k h1 hk), fun ad had hk => ?_, h.ne2, fun k hk => ?_, (hg.block _ hz fun hk => h.z1 hk.symm).trans h.box, fun hk => ?_, h.z2⟩
  · rcases ha _ hk with h1 | h1
    · exact h.ne1 ad had h1
    · have := h.lt ad had; omega
  · rcases ha _ hk with h1 | h1
    · exact h.ap k h1
    · intro h2; have := (h.row2.block_lt _ h2).2; omega
  · rcases ha _ hk with h1 | h1
    · exact h.z1 h1
    · omega
theorem Tw.swap {w W : World} {a : Option Addr} {cap : Nat} {S : List Rc} {u1 : Value} {C1 : List Rc} {u2 : Value} {C2 : List Rc} {Z : Nat} {r : Rc} (h : Tw w W a cap S u1 C1 u2 C2 Z r) : Tw w W a cap S u2 C2 u1 C1 Z r :=
  ⟨h.bel, h.lies, h.lt, h.row2, h.row1, h.ne2, h.ne1, fun k h1 h2 => h.ap k h2 h1, h.box, h.z2, h.z1⟩
theorem filter_step {L : List Rc} {k : Nat} (hk : k < L.length) (a b : Int) : (L.take (k + 1)).filter (key a b) = (L.take k).filter (key a b) ++ (if key a b (L.getD k zR) then [L.getD k zR] else []) := by
  rw [take_at hk, List.filter_append]
  congr 1
  rw [List.filter_cons]; simp

theorem key_ways (x r : Rc) : (Hid (key r.sh r.au x = false) ∧ (x.sh == r.sh) = false) ∨ (Hid (key r.sh r.au x = false) ∧ (x.sh == r.sh) = true ∧ (x.au == r.au) = false) ∨ (Hid (key r.sh r.au x = true) ∧ (x.sh == r.sh) = true ∧ (x.au == r.au) = true) := by
  unfold key
  cases h1 : (x.sh == r.sh) <;> cases h2 : (x.au == r.au) <;> simp [Hid]
/-- The cells that are read in a round: of both lists, and of the record at hand. -/
structure Dc (w7 W : World) (b off j : Nat) (x : Rc) (g off3 : Nat) (y : Rc) (Z : Nat) (r : Rc) : Prop where
  bel : Below w7.heap.size w7 W
  lx : ∀ X : World, Below w7.heap.size w7 X → X.cell? ⟨b, off + j * 4, none⟩ = some (.int .i64 x.sh) ∧ X.cell? ⟨b, off + j * 4 + 1, none⟩ = some (.int .i64 x.au) ∧ X.cell? ⟨b, off + j * 4 + 2, none⟩ = some (.int .i64 x.k) ∧ X.cell? ⟨b, off + j * 4 + 3, none⟩ = some (.int .i64 x.m)
  ly : ∀ X : World, Below w7.heap.size w7 X → X.cell? ⟨g, off3 + j * 4, none⟩ = some (.int .i64 y.sh) ∧ X.cell? ⟨g, off3 + j * 4 + 1, none⟩ = some (.int .i64 y.au) ∧ X.cell? ⟨g, off3 + j * 4 + 2, none⟩ = some (.int .i64 y.k) ∧ X.cell? ⟨g, off3 + j * 4 + 3, none⟩ = some (.int .i64 y.m)
  box : W.heap[Z]? = some (rob r)
theorem Dc.cells {w7 W : World} {b off j : Nat} {x : Rc} {g off3 : Nat} {y : Rc} {Z : Nat} {r : Rc} (h : Dc w7 W b off j x g off3 y Z r) :
    W.cell? ⟨b, off + j * 4, none⟩ = some (.int .i64 x.sh) ∧ W.cell? ⟨b, off + j * 4 + 1, none⟩ = some (.int .i64 x.au) ∧ W.cell? ⟨b, off + j * 4 + 2, none⟩ = some (.int .i64 x.k) ∧ W.cell? ⟨b, off + j * 4 + 3, none⟩ = some (.int .i64 x.m) ∧
    W.cell? ⟨g, off3 + j * 4, none⟩ = some (.int .i64 y.sh) ∧ W.cell? ⟨g, off3 + j * 4 + 1, none⟩ = some (.int .i64 y.au) ∧ W.cell? ⟨g, off3 + j * 4 + 2, none⟩ = some (.int .i64 y.k) ∧ W.cell? ⟨g, off3 + j * 4 + 3, none⟩ = some (.int .i64 y.m) ∧
    W.cell? ⟨Z, 0, none⟩ = some (.int .i64 r.sh) ∧ W.cell? ⟨Z, 1, none⟩ = some (.int .i64 r.au) := by
  obtain ⟨c1, c2, c3, c4⟩ := h.lx W h.bel
  obtain ⟨d1, d2, d3, d4⟩ := h.ly W h.bel
  obtain ⟨b1, b2, -, -⟩ := rob_cells h.box
  exact ⟨c1, c2, c3, c4, d1, d2, d3, d4, b1, b2⟩
theorem Dc.grow {w7 W W' : World} {b off j : Nat} {x : Rc} {g off3 : Nat} {y : Rc} {Z : Nat} {r : Rc} (h : Dc w7 W b off j x g off3 y Z r) (hb : Below w7.heap.size w7 W') (hx : W'.heap[Z]? = some (rob r)) : Dc w7 W' b off j x g off3 y Z r := ⟨hb, h.lx, h.ly, hx⟩
theorem Dc.on {w7 W W' : World} {b off j : Nat} {x : Rc} {g off3 : Nat} {y : Rc} {Z : Nat} {r : Rc} (h : Dc w7 W b off j x g off3 y Z r) (hb : Below W.heap.size W W') : Dc w7 W' b off j x g off3 y Z r :=
  h.grow (h.bel.trans (hb.mono h.bel.size)) ((hb.block _ (lt_of_block h.box)).trans h.box)
theorem dc_of {w7 W : World} {b off c j : Nat} {x : Rc} {g off3 c3 : Nat} {y : Rc} {Z : Nat} {r : Rc} {L S : List Rc} (h1 : Lies kR w7 (some ⟨b, off, none⟩) c L) (h2 : Lies kR w7 (some ⟨g, off3, none⟩) c3 S) (hj : j < L.length) (hj2 : j < S.length) (hx : L.getD j zR = x) (hy : S.getD j zR = y) (hb : Below w7.heap.size w7 W) (hbox : W.heap[Z]? = some (rob r)) : Dc w7 W b off j x g off3 y Z r := by
  subst hx hy
  refine ⟨hb, fun X hX => ?_, fun X hX => ?_, hbox⟩
  · obtain ⟨b', off', h, -, q⟩ := rc_cells (h1.below hX) hj
    cases h; exact q
  · obtain ⟨b', off', h, -, q⟩ := rc_cells (h2.below hX) hj2
    cases h; exact q

set_option maxRecDepth 10000 in
set_option maxHeartbeats 6400000 in
theorem daySorted_at (a : Option Addr) (c : Nat) (L : List Rc) (shop : Int) (w : World) (hl : Lies kR w a c L) :
    Calls Try.prog 14 #[.slice a L.length c, .int .i64 shop] w fun e w' => e = .returned (.bool true) ∧ Below w.heap.size w w' := by
  have hfd := fieldErr
  have hAl : Calls Try.prog 51 #[] w fun e w' => e = .returned (.bool true) ∧ Below w.heap.size w w' := alive_any w
  have hL : At kR w (.slice a L.length c) L := ⟨a, c, rfl, hl⟩
  have hWr : ∀ X : World, Below w.heap.size w X → Calls Try.prog 42 #[.slice a L.length c] X fun e w' => e = .returned (.agg #[.int .i64 (wrongL L).1, .int .i64 (wrongL L).2]) ∧ Below X.heap.size X w' := fun X hX => wrong_any L _ X (hL.below hX)
  by_cases hw : (wrongL L).1 = 0
  case neg =>
    have hw' : ((wrongL L).1 != 0) = true := by simpa using hw
    clear hw
    generalize (wrongL L).1 = e1 at *
    generalize (wrongL L).2 = e2 at *
    go_enter Try.func14, Try.ntmps14
    go_wp2_with (first
      | (go_at_call 51; refine hAl.mono ?_; rintro e w1 ⟨rfl, hb1⟩)
      | (go_at_call 42; refine (hWr _ hb1).mono ?_; rintro e w2 ⟨rfl, hb2⟩))
    go_ret
    exact ⟨rfl, hb1.trans (hb2.mono hb1.size)⟩
  case pos =>
    have hR := wrong_ok.1 hw
    rw [wrong_zero hw] at hWr
    dsimp only at hWr
    have hfew := hR.few
    have hSo : ∀ Y : World, Below w.heap.size w Y → Calls Try.prog 45 #[.slice a L.length c] Y (AnswersR Y (sortR L)) := fun Y hY => sorted_any L _ Y (hL.below hY) (by omega)
    have hSS : ∀ (Y : World) (u : Value), At kR Y u (sortR L) → Calls Try.prog 45 #[u] Y (AnswersR Y (sortR L)) := fun Y u hu => by
      have := sorted_any (sortR L) u Y hu (by rw [sort_length]; omega)
      rw [sort_sort] at this; exact this
    have hN1 : ∀ (Y : World) (u : Value), At kR Y u (sortR L) → Calls Try.prog 47 #[u, .int .i64 shop] Y fun e w' => e = .returned (.int .i64 (net shop L)) ∧ Below Y.heap.size Y w' := fun Y u hu => by
      have := net_any (sortR L) u shop Y hu hR.sort
      rw [net_sort] at this; exact this
    have hN2 : ∀ Y : World, Below w.heap.size w Y → Calls Try.prog 47 #[.slice a L.length c, .int .i64 shop] Y fun e w' => e = .returned (.int .i64 (net shop L)) ∧ Below Y.heap.size Y w' := fun Y hY => net_any L _ shop Y (hL.below hY) hR
    have hsl := sort_length L
    have hsrt := hid (sort_srt L)
    have hflt := hid (sort_filter L)
    clear hw hR
    generalize net shop L = nn at *
    generalize sortR L = S at *
    go_enter Try.func14, Try.ntmps14
    go_upto_region 6 with (first
      | (go_at_call 51; refine hAl.mono ?_; rintro e w1 ⟨rfl, hb1⟩)
      | (go_at_call 42; refine (hWr _ hb1).mono ?_; rintro e w2 ⟨rfl, hb2⟩; have hb3 : Below w.heap.size w w2 := hb1.trans (hb2.mono hb1.size))
      | (go_at_call 45; refine (hSo _ hb3).mono ?_; rintro e w3 ⟨a3, c3, rfl, hl3, hp3, hlt3, hb4⟩))
    have hb5 : Below w.heap.size w w3 := hb3.trans (hb4.mono hb3.size)
    have hp3' : Past w.heap.size a3 := past_mono hp3 hb3.size
    have hat3 : At kR w3 (.slice a3 S.length c3) S := ⟨a3, c3, rfl, hl3⟩
    rw [hsl] at hat3
    have hq1 : ((L.length : Int) != (L.length : Int)) = false := by simp
    have hq2 : (nn != nn) = false := by simp
    clear hAl hWr hSo hb1 hb2 hb3 hb4 hp3
    have hfirst : Hid True := trivial
    go_upto_region 8 with (first
      | (go_at_call 45; refine (hSS _ _ hat3).mono ?_; rintro e w4 ⟨a4, c4, rfl, hl4, -, -, hb6⟩; have hat4 := hat3.below hb6)
      | (go_at_call 44; refine (same_any S _ _ _ ⟨a4, c4, by rw [hsl], hl4⟩ hat4).mono ?_; rintro e w5 ⟨rfl, hb7⟩; have hat5 := hat4.below hb7; have hb8 : Below w3.heap.size w3 w5 := hb6.trans (hb7.mono hb6.size))
      | (go_at_call 47; have hx := hfirst; clear hfirst; refine (hN1 _ _ hat5).mono ?_; rintro e w6 ⟨rfl, hb9⟩; have hb10 : Below w3.heap.size w3 w6 := hb8.trans (hb9.mono hb8.size); have hb11 : Below w.heap.size w w6 := hb5.trans (hb10.mono hb5.size))
      | (go_at_call 47; refine (hN2 _ hb11).mono ?_; rintro e w7 ⟨rfl, hb12⟩; have hb13 : Below w3.heap.size w3 w7 := hb10.trans (hb12.mono hb10.size); have hb14 : Below w.heap.size w w7 := hb11.trans (hb12.mono hb11.size)))
    have hl7 := hl3.below hb13
    have hll7 := hl.below hb14
    clear hb5 hb6 hb7 hb8 hb9 hb10 hb11 hb12 hb13 hat3 hat4 hat5 hl3 hl4 hSS hN1 hN2 hx
    go_wp2_with fail
    go_loopw [43] (fun i wr => ∃ k : Nat, k ≤ L.length ∧ i = .int .i64 k ∧ Below w7.heap.size w7 wr) (fun i _ => L.length - (intOf i).toNat)
    case atStart => exact ⟨0, Nat.zero_le _, rfl, Below.refl _ _⟩
    case round =>
      obtain ⟨k, hk, rfl, hb⟩ := hrel
      by_cases hlt : k < L.length
      · have hlt' : (k : Int) < L.length := by omega
        by_cases hk0 : k = 0
        · subst hk0
          have hd0 : decide (0 < (0 : Nat)) = false := rfl
          go_upto_region 11 with fail
          go_quiet (fail)
          go_wp2_with fail
          go_roundw
          case rel => exact ⟨1, by omega, by go_num, below_drewN hb _⟩
          case measure => simp [intOf]; omega
        · obtain ⟨r, rfl⟩ : ∃ r, k = r + 1 := ⟨k - 1, by omega⟩
          have hd0 : decide (0 < r + 1) = true := by simp
          have hs1 := hsrt.out.at (i := r) (j := r + 1) (by omega) (by omega)
          obtain ⟨g, off, rfl, hg, ⟨c1, c2, -, -⟩, d1, d2, -, -⟩ := lies_eight (hl7.below hb) (i := r + 1) (j := r) (by omega) (by omega)
          generalize S.getD (r + 1) zR = y at *
          generalize S.getD r zR = x at *
          have hI1 : (r : Int) + 1 < L.length := by omega
          have hI2 : (r : Int) < L.length := by omega
          have hI3 : r < L.length := by omega
          have hW1 : IntKind.i64.wrap ((r : Int) + 1 - 1) = r := (wrap64' (by omega) (by omega)).trans (by omega)
          have hW2 : IntKind.i64.wrap (r : Int) = r := wrap64' (by omega) (by omega)
          rw [gtB_false] at hs1
          rcases (show x.sh < y.sh ∨ (x.sh = y.sh ∧ x.au ≤ y.au) by omega) with h1 | ⟨h1, h2⟩
          · have g1 : decide (y.sh < x.sh) = false := decide_eq_false (by omega)
            have g2 : (x.sh == y.sh) = false := by simp; omega
            have g3 : ¬ (y.sh < x.sh) := by omega
            clear hs1 h1 hk0
            go_upto_region 11 with fail
            go_quiet (fail)
            go_wp2_with fail
            go_roundw
            case rel => exact ⟨r + 2, by omega, by go_num, below_drewN hb _⟩
            case measure => simp [intOf]; omega
          · have g1 : decide (y.sh < x.sh) = false := decide_eq_false (by omega)
            have g2 : (x.sh == y.sh) = true := by simpa using h1
            have g3 : ¬ (y.sh < x.sh) := by omega
            have g4 : decide (y.au < x.au) = false := decide_eq_false (by omega)
            have g5 : ¬ (y.au < x.au) := by omega
            clear hs1 h1 h2 hk0
            go_upto_region 11 with fail
            go_quiet (fail)
            go_wp2_with fail
            go_roundw
            case rel => exact ⟨r + 2, by omega, by go_num, below_drewN hb _⟩
            case measure => simp [intOf]; omega
      · go_wp2_with fail
        generalize wr = W0 at *
        go_loopw [93] (fun i wr => ∃ k : Nat, k ≤ L.length ∧ i = .int .i64 k ∧ Below w7.heap.size w7 wr) (fun i _ => L.length - (intOf i).toNat)
        case atStart => exact ⟨0, Nat.zero_le _, rfl, hb⟩
        case round =>
          clear hb hk hlt
          obtain ⟨k, hk, rfl, hb⟩ := hrel
          by_cases hlt : k < L.length
          · have hlt' : (k : Int) < L.length := by omega
            obtain ⟨b, off, rfl, hbl, e1, e2, e3, e4⟩ := rc_cells (hll7.below hb) hlt
            generalize L.getD k zR = r at *
            have T0 : Tw w7 (wr.alloc (rob r)) none 0 [] (.slice none 0 0) [] (.slice none 0 0) [] wr.heap.size r := ⟨hb.alloc hb.size _, lies_nil _ _, (fun _ h => by cases h), .nil, .nil, (fun _ h => by cases h), (fun _ h => by cases h), (fun _ h => by cases h), heap_alloc_at _ _ _ rfl, (fun h => by cases h), (fun h => by cases h)⟩
            unfold rob at T0
            go_wp2_with fail
            generalize wr.alloc (.cells #[.int .i64 r.sh, .int .i64 r.au, .int .i64 r.k, .int .i64 r.m] 87) = W1 at *
            generalize wr.heap.size = Z at *
            clear e1 e2 e3 e4 hb hbl
            go_loopw [99, 9, 10] (fun i u1 u2 X => ∃ j : Nat, j ≤ L.length ∧ i = .int .i64 j ∧ Tw w7 X none 0 [] u1 ((L.take j).filter (key r.sh r.au)) u2 ((S.take j).filter (key r.sh r.au)) Z r) (fun i _ _ _ => L.length - (intOf i).toNat)
            case atStart => exact ⟨0, Nat.zero_le _, rfl, T0⟩
            case round =>
              clear T0
              obtain ⟨j, hj, rfl, T⟩ := hrel
              by_cases hjl : j < L.length
              case neg =>
                rw [List.take_of_length_le (by omega), List.take_of_length_le (by omega), hflt.out] at T
                generalize L.filter (key r.sh r.au) = C at *
                have hat1 := Row.at T.row1
                have hat2 := Row.at T.row2
                have hbT := T.bel
                go_wp2_with (go_at_call 44; refine (same_any C _ _ _ hat1 hat2).mono ?_; rintro e wz ⟨rfl, hbz⟩)
                go_roundw
                case rel => exact ⟨k + 1, by omega, by go_num, hbT.trans (hbz.mono hbT.size)⟩
                case measure => simp [intOf]; omega
              have hjl' : (j : Int) < L.length := by omega
              have hF1 := filter_step hjl r.sh r.au
              have hF2 := filter_step (L := S) (k := j) (by omega) r.sh r.au
              have hC1 : Hid (((L.take j).filter (key r.sh r.au)).length ≤ 100) := hid (Nat.le_trans (List.length_filter_le _ _) (by simp; omega))
              have hC2 : Hid (((S.take j).filter (key r.sh r.au)).length ≤ 100) := hid (Nat.le_trans (List.length_filter_le _ _) (by simp; omega))
              obtain ⟨b', off', hab, hbl, -⟩ := rc_cells hll7 hjl
              cases hab
              obtain ⟨g3, off3, rfl, hbl3, -⟩ := rc_cells hl7 (i := j) (by omega)
              obtain ⟨x, hx⟩ : ∃ x, Hid (L.getD j zR = x) := ⟨_, rfl⟩
              obtain ⟨y, hy⟩ : ∃ y, Hid (S.getD j zR = y) := ⟨_, rfl⟩
              have D : Dc w7 wr b off j x g3 off3 y Z r := dc_of hll7 hl7 hjl (by omega) hx.out hy.out T.bel T.box
              obtain ⟨c1, c2, c3, c4, d1, d2, d3, d4, b1, b2⟩ := D.cells
              rw [hx.out] at hF1
              rw [hy.out] at hF2
              have wx := key_ways x r
              have wy := key_ways y r
              rcases wx with ⟨hkx, hx1⟩ | ⟨hkx, hx1, hx2⟩ | ⟨hkx, hx1, hx2⟩ <;> rcases wy with ⟨hky, hy1⟩ | ⟨hky, hy1, hy2⟩ | ⟨hky, hy1, hy2⟩
              · -- 0 0
                rw [if_neg (by rw [hkx.out]; decide)] at hF1
                rw [if_neg (by rw [hky.out]; decide)] at hF2
                rw [List.append_nil] at hF1
                rw [List.append_nil] at hF2
                have HF1 := hid hF1
                have HF2 := hid hF2
                clear hF1 hF2
                generalize (L.take j).filter (key r.sh r.au) = C1 at *
                generalize (S.take j).filter (key r.sh r.au) = C2 at *
                go_upto_region 21 with fail
                go_quiet (fail)
                have T1 := T.on (below_drewN (Below.refl wr.heap.size wr) nq)
                have hbn := below_drewN (Below.refl wr.heap.size wr) nq
                have D1 := D.on hbn
                generalize wr.drewN nq = X1 at *
                clear T D hbn
                have T2 := T1
                have D2 := D1
                generalize X1 = X2 at *
                obtain ⟨c1, c2, c3, c4, d1, d2, d3, d4, b1, b2⟩ := D2.cells
                go_upto_region 23 with fail
                go_quiet (fail)
                have T3 := T2.on (below_drewN (Below.refl X2.heap.size X2) nq)
                have D3 := D2.on (below_drewN (Below.refl X2.heap.size X2) nq)
                generalize X2.drewN nq = X3 at *
                clear c1 c2 c3 c4 d1 d2 d3 d4 b1 b2
                have T4 := T3
                go_wp2_with fail
                go_roundw
                case rel => exact ⟨j + 1, by omega, by go_num, by rw [HF1.out, HF2.out]; exact T4⟩
                case measure => simp [intOf]; omega
              · -- 0 1
                rw [if_neg (by rw [hkx.out]; decide)] at hF1
                rw [if_neg (by rw [hky.out]; decide)] at hF2
                rw [List.append_nil] at hF1
                rw [List.append_nil] at hF2
                have HF1 := hid hF1
                have HF2 := hid hF2
                clear hF1 hF2
                generalize (L.take j).filter (key r.sh r.au) = C1 at *
                generalize (S.take j).filter (key r.sh r.au) = C2 at *
                go_upto_region 21 with fail
                go_quiet (fail)
                have T1 := T.on (below_drewN (Below.refl wr.heap.size wr) nq)
                have hbn := below_drewN (Below.refl wr.heap.size wr) nq
                have D1 := D.on hbn
                generalize wr.drewN nq = X1 at *
                clear T D hbn
                have T2 := T1
                have D2 := D1
                generalize X1 = X2 at *
                obtain ⟨c1, c2, c3, c4, d1, d2, d3, d4, b1, b2⟩ := D2.cells
                go_upto_region 23 with fail
                go_quiet (fail)
                have T3 := T2.on (below_drewN (Below.refl X2.heap.size X2) nq)
                have D3 := D2.on (below_drewN (Below.refl X2.heap.size X2) nq)
                generalize X2.drewN nq = X3 at *
                clear c1 c2 c3 c4 d1 d2 d3 d4 b1 b2
                have T4 := T3
                go_wp2_with fail
                go_roundw
                case rel => exact ⟨j + 1, by omega, by go_num, by rw [HF1.out, HF2.out]; exact T4⟩
                case measure => simp [intOf]; omega
              · -- 0 2
                rw [if_neg (by rw [hkx.out]; decide)] at hF1
                rw [if_pos (by rw [hky.out])] at hF2
                rw [List.append_nil] at hF1
                have HF1 := hid hF1
                have HF2 := hid hF2
                clear hF1 hF2
                generalize (L.take j).filter (key r.sh r.au) = C1 at *
                generalize (S.take j).filter (key r.sh r.au) = C2 at *
                go_upto_region 21 with fail
                go_quiet (fail)
                have T1 := T.on (below_drewN (Below.refl wr.heap.size wr) nq)
                have hbn := below_drewN (Below.refl wr.heap.size wr) nq
                have D1 := D.on hbn
                generalize wr.drewN nq = X1 at *
                clear T D hbn
                have T2 := T1
                have D2 := D1
                generalize X1 = X2 at *
                obtain ⟨c1, c2, c3, c4, d1, d2, d3, d4, b1, b2⟩ := D2.cells
                go_upto_region 23 with fail
                go_quiet (fail)
                have T3 := T2.on (below_drewN (Below.refl X2.heap.size X2) nq)
                have D3 := D2.on (below_drewN (Below.refl X2.heap.size X2) nq)
                generalize X2.drewN nq = X3 at *
                clear c1 c2 c3 c4 d1 d2 d3 d4 b1 b2
                have T3s := T3.swap
                obtain ⟨c1, c2, c3, c4, d1, d2, d3, d4, b1, b2⟩ := D3.cells
                go_wp2_with (at_builtin; refine wpList_append elemR _ rfl _ _ rfl w7.heap.size _ _ rfl (T3s.row1.alloc _) (some ⟨X3.heap.size, 0, none⟩) 1 1 [y] rfl rfl (lies_one (heap_alloc_at _ _ _ rfl) rfl 1) ?c3 ?c4 ?c5 ?_)
                case c3 => have := hC2.out; simp [maxLen]; omega
                case c4 => have := hC2.out; simp; omega
                case c5 => have := T3s.bel.size; simp; omega
                intro v2 w20 hrow2 hgrow2 hat2 _
                have T4s := (T3s.on (below_alloc _ _)).grow1 hrow2 hgrow2 (by simpa using hat2)
                clear hrow2 hgrow2 hat2
                have T4 := T4s.swap
                go_wp2_with fail
                go_roundw
                case rel => exact ⟨j + 1, by omega, by go_num, by rw [HF1.out, HF2.out]; exact T4⟩
                case measure => simp [intOf]; omega
              · -- 1 0
                rw [if_neg (by rw [hkx.out]; decide)] at hF1
                rw [if_neg (by rw [hky.out]; decide)] at hF2
                rw [List.append_nil] at hF1
                rw [List.append_nil] at hF2
                have HF1 := hid hF1
                have HF2 := hid hF2
                clear hF1 hF2
                generalize (L.take j).filter (key r.sh r.au) = C1 at *
                generalize (S.take j).filter (key r.sh r.au) = C2 at *
                go_upto_region 21 with fail
                go_quiet (fail)
                have T1 := T.on (below_drewN (Below.refl wr.heap.size wr) nq)
                have hbn := below_drewN (Below.refl wr.heap.size wr) nq
                have D1 := D.on hbn
                generalize wr.drewN nq = X1 at *
                clear T D hbn
                have T2 := T1
                have D2 := D1
                generalize X1 = X2 at *
                obtain ⟨c1, c2, c3, c4, d1, d2, d3, d4, b1, b2⟩ := D2.cells
                go_upto_region 23 with fail
                go_quiet (fail)
                have T3 := T2.on (below_drewN (Below.refl X2.heap.size X2) nq)
                have D3 := D2.on (below_drewN (Below.refl X2.heap.size X2) nq)
                generalize X2.drewN nq = X3 at *
                clear c1 c2 c3 c4 d1 d2 d3 d4 b1 b2
                have T4 := T3
                go_wp2_with fail
                go_roundw
                case rel => exact ⟨j + 1, by omega, by go_num, by rw [HF1.out, HF2.out]; exact T4⟩
                case measure => simp [intOf]; omega
              · -- 1 1
                rw [if_neg (by rw [hkx.out]; decide)] at hF1
                rw [if_neg (by rw [hky.out]; decide)] at hF2
                rw [List.append_nil] at hF1
                rw [List.append_nil] at hF2
                have HF1 := hid hF1
                have HF2 := hid hF2
                clear hF1 hF2
                generalize (L.take j).filter (key r.sh r.au) = C1 at *
                generalize (S.take j).filter (key r.sh r.au) = C2 at *
                go_upto_region 21 with fail
                go_quiet (fail)
                have T1 := T.on (below_drewN (Below.refl wr.heap.size wr) nq)
                have hbn := below_drewN (Below.refl wr.heap.size wr) nq
                have D1 := D.on hbn
                generalize wr.drewN nq = X1 at *
                clear T D hbn
                have T2 := T1
                have D2 := D1
                generalize X1 = X2 at *
                obtain ⟨c1, c2, c3, c4, d1, d2, d3, d4, b1, b2⟩ := D2.cells
                go_upto_region 23 with fail
                go_quiet (fail)
                have T3 := T2.on (below_drewN (Below.refl X2.heap.size X2) nq)
                have D3 := D2.on (below_drewN (Below.refl X2.heap.size X2) nq)
                generalize X2.drewN nq = X3 at *
                clear c1 c2 c3 c4 d1 d2 d3 d4 b1 b2
                have T4 := T3
                go_wp2_with fail
                go_roundw
                case rel => exact ⟨j + 1, by omega, by go_num, by rw [HF1.out, HF2.out]; exact T4⟩
                case measure => simp [intOf]; omega
              · -- 1 2
                rw [if_neg (by rw [hkx.out]; decide)] at hF1
                rw [if_pos (by rw [hky.out])] at hF2
                rw [List.append_nil] at hF1
                have HF1 := hid hF1
                have HF2 := hid hF2
                clear hF1 hF2
                generalize (L.take j).filter (key r.sh r.au) = C1 at *
                generalize (S.take j).filter (key r.sh r.au) = C2 at *
                go_upto_region 21 with fail
                go_quiet (fail)
                have T1 := T.on (below_drewN (Below.refl wr.heap.size wr) nq)
                have hbn := below_drewN (Below.refl wr.heap.size wr) nq
                have D1 := D.on hbn
                generalize wr.drewN nq = X1 at *
                clear T D hbn
                have T2 := T1
                have D2 := D1
                generalize X1 = X2 at *
                obtain ⟨c1, c2, c3, c4, d1, d2, d3, d4, b1, b2⟩ := D2.cells
                go_upto_region 23 with fail
                go_quiet (fail)
                have T3 := T2.on (below_drewN (Below.refl X2.heap.size X2) nq)
                have D3 := D2.on (below_drewN (Below.refl X2.heap.size X2) nq)
                generalize X2.drewN nq = X3 at *
                clear c1 c2 c3 c4 d1 d2 d3 d4 b1 b2
                have T3s := T3.swap
                obtain ⟨c1, c2, c3, c4, d1, d2, d3, d4, b1, b2⟩ := D3.cells
                go_wp2_with (at_builtin; refine wpList_append elemR _ rfl _ _ rfl w7.heap.size _ _ rfl (T3s.row1.alloc _) (some ⟨X3.heap.size, 0, none⟩) 1 1 [y] rfl rfl (lies_one (heap_alloc_at _ _ _ rfl) rfl 1) ?c3 ?c4 ?c5 ?_)
                case c3 => have := hC2.out; simp [maxLen]; omega
                case c4 => have := hC2.out; simp; omega
                case c5 => have := T3s.bel.size; simp; omega
                intro v2 w20 hrow2 hgrow2 hat2 _
                have T4s := (T3s.on (below_alloc _ _)).grow1 hrow2 hgrow2 (by simpa using hat2)
                clear hrow2 hgrow2 hat2
                have T4 := T4s.swap
                go_wp2_with fail
                go_roundw
                case rel => exact ⟨j + 1, by omega, by go_num, by rw [HF1.out, HF2.out]; exact T4⟩
                case measure => simp [intOf]; omega
              · -- 2 0
                rw [if_pos (by rw [hkx.out])] at hF1
                rw [if_neg (by rw [hky.out]; decide)] at hF2
                rw [List.append_nil] at hF2
                have HF1 := hid hF1
                have HF2 := hid hF2
                clear hF1 hF2
                generalize (L.take j).filter (key r.sh r.au) = C1 at *
                generalize (S.take j).filter (key r.sh r.au) = C2 at *
                go_upto_region 21 with fail
                go_quiet (fail)
                have T1 := T.on (below_drewN (Below.refl wr.heap.size wr) nq)
                have hbn := below_drewN (Below.refl wr.heap.size wr) nq
                have D1 := D.on hbn
                generalize wr.drewN nq = X1 at *
                clear T D hbn
                obtain ⟨c1, c2, c3, c4, d1, d2, d3, d4, b1, b2⟩ := D1.cells
                go_wp2_with (at_builtin; refine wpList_append elemR _ rfl _ _ rfl w7.heap.size _ _ rfl (T1.row1.alloc _) (some ⟨X1.heap.size, 0, none⟩) 1 1 [x] rfl rfl (lies_one (heap_alloc_at _ _ _ rfl) rfl 1) ?c3 ?c4 ?c5 ?_)
                case c3 => have := hC1.out; simp [maxLen]; omega
                case c4 => have := hC1.out; simp; omega
                case c5 => have := T1.bel.size; simp; omega
                intro v1 w10 hrow1 hgrow1 hat1 _
                have T2 := (T1.on (below_alloc _ _)).grow1 hrow1 hgrow1 (by simpa using hat1)
                clear hrow1 hgrow1 hat1
                have D2 := D1.grow T2.bel T2.box
                clear c1 c2 c3 c4 d1 d2 d3 d4 b1 b2
                generalize w10 = X2 at *
                obtain ⟨c1, c2, c3, c4, d1, d2, d3, d4, b1, b2⟩ := D2.cells
                go_upto_region 23 with fail
                go_quiet (fail)
                have T3 := T2.on (below_drewN (Below.refl X2.heap.size X2) nq)
                have D3 := D2.on (below_drewN (Below.refl X2.heap.size X2) nq)
                generalize X2.drewN nq = X3 at *
                clear c1 c2 c3 c4 d1 d2 d3 d4 b1 b2
                have T4 := T3
                go_wp2_with fail
                go_roundw
                case rel => exact ⟨j + 1, by omega, by go_num, by rw [HF1.out, HF2.out]; exact T4⟩
                case measure => simp [intOf]; omega
              · -- 2 1
                rw [if_pos (by rw [hkx.out])] at hF1
                rw [if_neg (by rw [hky.out]; decide)] at hF2
                rw [List.append_nil] at hF2
                have HF1 := hid hF1
                have HF2 := hid hF2
                clear hF1 hF2
                generalize (L.take j).filter (key r.sh r.au) = C1 at *
                generalize (S.take j).filter (key r.sh r.au) = C2 at *
                go_upto_region 21 with fail
                go_quiet (fail)
                have T1 := T.on (below_drewN (Below.refl wr.heap.size wr) nq)
                have hbn := below_drewN (Below.refl wr.heap.size wr) nq
                have D1 := D.on hbn
                generalize wr.drewN nq = X1 at *
                clear T D hbn
                obtain ⟨c1, c2, c3, c4, d1, d2, d3, d4, b1, b2⟩ := D1.cells
                go_wp2_with (at_builtin; refine wpList_append elemR _ rfl _ _ rfl w7.heap.size _ _ rfl (T1.row1.alloc _) (some ⟨X1.heap.size, 0, none⟩) 1 1 [x] rfl rfl (lies_one (heap_alloc_at _ _ _ rfl) rfl 1) ?c3 ?c4 ?c5 ?_)
                case c3 => have := hC1.out; simp [maxLen]; omega
                case c4 => have := hC1.out; simp; omega
                case c5 => have := T1.bel.size; simp; omega
                intro v1 w10 hrow1 hgrow1 hat1 _
                have T2 := (T1.on (below_alloc _ _)).grow1 hrow1 hgrow1 (by simpa using hat1)
                clear hrow1 hgrow1 hat1
                have D2 := D1.grow T2.bel T2.box
                clear c1 c2 c3 c4 d1 d2 d3 d4 b1 b2
                generalize w10 = X2 at *
                obtain ⟨c1, c2, c3, c4, d1, d2, d3, d4, b1, b2⟩ := D2.cells
                go_upto_region 23 with fail
                go_quiet (fail)
                have T3 := T2.on (below_drewN (Below.refl X2.heap.size X2) nq)
                have D3 := D2.on (below_drewN (Below.refl X2.heap.size X2) nq)
                generalize X2.drewN nq = X3 at *
                clear c1 c2 c3 c4 d1 d2 d3 d4 b1 b2
                have T4 := T3
                go_wp2_with fail
                go_roundw
                case rel => exact ⟨j + 1, by omega, by go_num, by rw [HF1.out, HF2.out]; exact T4⟩
                case measure => simp [intOf]; omega
              · -- 2 2
                rw [if_pos (by rw [hkx.out])] at hF1
                rw [if_pos (by rw [hky.out])] at hF2
                have HF1 := hid hF1
                have HF2 := hid hF2
                clear hF1 hF2
                generalize (L.take j).filter (key r.sh r.au) = C1 at *
                generalize (S.take j).filter (key r.sh r.au) = C2 at *
                go_upto_region 21 with fail
                go_quiet (fail)
                have T1 := T.on (below_drewN (Below.refl wr.heap.size wr) nq)
                have hbn := below_drewN (Below.refl wr.heap.size wr) nq
                have D1 := D.on hbn
                generalize wr.drewN nq = X1 at *
                clear T D hbn
                obtain ⟨c1, c2, c3, c4, d1, d2, d3, d4, b1, b2⟩ := D1.cells
                go_wp2_with (at_builtin; refine wpList_append elemR _ rfl _ _ rfl w7.heap.size _ _ rfl (T1.row1.alloc _) (some ⟨X1.heap.size, 0, none⟩) 1 1 [x] rfl rfl (lies_one (heap_alloc_at _ _ _ rfl) rfl 1) ?c3 ?c4 ?c5 ?_)
                case c3 => have := hC1.out; simp [maxLen]; omega
                case c4 => have := hC1.out; simp; omega
                case c5 => have := T1.bel.size; simp; omega
                intro v1 w10 hrow1 hgrow1 hat1 _
                have T2 := (T1.on (below_alloc _ _)).grow1 hrow1 hgrow1 (by simpa using hat1)
                clear hrow1 hgrow1 hat1
                have D2 := D1.grow T2.bel T2.box
                clear c1 c2 c3 c4 d1 d2 d3 d4 b1 b2
                generalize w10 = X2 at *
                obtain ⟨c1, c2, c3, c4, d1, d2, d3, d4, b1, b2⟩ := D2.cells
                go_upto_region 23 with fail
                go_quiet (fail)
                have T3 := T2.on (below_drewN (Below.refl X2.heap.size X2) nq)
                have D3 := D2.on (below_drewN (Below.refl X2.heap.size X2) nq)
                generalize X2.drewN nq = X3 at *
                clear c1 c2 c3 c4 d1 d2 d3 d4 b1 b2
                have T3s := T3.swap
                obtain ⟨c1, c2, c3, c4, d1, d2, d3, d4, b1, b2⟩ := D3.cells
                go_wp2_with (at_builtin; refine wpList_append elemR _ rfl _ _ rfl w7.heap.size _ _ rfl (T3s.row1.alloc _) (some ⟨X3.heap.size, 0, none⟩) 1 1 [y] rfl rfl (lies_one (heap_alloc_at _ _ _ rfl) rfl 1) ?c3 ?c4 ?c5 ?_)
                case c3 => have := hC2.out; simp [maxLen]; omega
                case c4 => have := hC2.out; simp; omega
                case c5 => have := T3s.bel.size; simp; omega
                intro v2 w20 hrow2 hgrow2 hat2 _
                have T4s := (T3s.on (below_alloc _ _)).grow1 hrow2 hgrow2 (by simpa using hat2)
                clear hrow2 hgrow2 hat2
                have T4 := T4s.swap
                go_wp2_with fail
                go_roundw
                case rel => exact ⟨j + 1, by omega, by go_num, by rw [HF1.out, HF2.out]; exact T4⟩
                case measure => simp [intOf]; omega
          · go_wp2_with fail
            go_ret
            exact ⟨rfl, hb14.trans (hb.mono hb14.size)⟩
end Go.Proofs.Ytkkgojdefjoajab.Dy
