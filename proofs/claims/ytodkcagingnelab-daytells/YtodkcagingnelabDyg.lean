/- Sorting in place: the walks of stable, SortStableFunc and Sorted. -/
import Derived.Test.YtodkcagingnelabDyf
namespace Go.Proofs.Ytodkcagingnelab.Dy
open Go.RowKit Go.Proofs.Ytodkcagingnelab.Gn

theorem sym_at (P X Y Q L L' : List Rc) (hX : Srt X) (hY : Srt Y) (h1 : 0 < X.length) (h2 : 0 < Y.length) (hL : P ++ (X ++ (Y ++ Q)) = L) (hL' : P ++ (sortR (X ++ Y) ++ Q) = L') (g N cap : Nat) (a m b : Int) (ha : a = P.length) (hm : m = P.length + X.length) (hb : b = P.length + X.length + Y.length) (w : World)
    (hN : N = L.length) (hN2 : N ≤ 1152921504606846976) (hB : Blo w g L) :
    Calls Try.prog 90 #[.slice (some ⟨g, 0, none⟩) N cap, .int .i64 a, .int .i64 m, .int .i64 b, .func (.func 73) #[] #[]] w fun e w' => e = .returned (.tuple #[]) ∧ Sorts w g L' w' := by
  subst hL hL'
  exact sym_any _ P X Y Q (Nat.le_refl _) hX hY h1 h2 g N cap a m b ha hm hb w hN hN2 hB

/-- Blocks that are whole, and what is left. -/
structure St1 (L D R : List Rc) (s u : Nat) (Ds : List (List Rc)) : Prop where
  flat : Ds.flatten = D
  len : D.length = u
  full : Full s Ds
  same : Same L (D ++ R)
theorem St1.push {L D X R' : List Rc} {s u : Nat} {Ds : List (List Rc)} (h : St1 L D (X ++ R') s u Ds) (hX : X.length = s) : St1 L (D ++ sortR X) R' s (u + s) (Ds ++ [sortR X]) := by
  refine ⟨by rw [flatten_snoc, h.flat], by rw [List.length_append, h.len, sort_length, hX], h.full.snoc (by rw [sort_length, hX]) (sort_srt X), ?_⟩
  have := h.same.trans (((Same.refl D).app ((same_sort X).app (Same.refl R'))))
  simpa using this
theorem Same.length_eq {A B : List Rc} (h : Same A B) : B.length = A.length := by
  have e : sortR B = sortR A := sort_eq (sort_srt B) fun a b => by rw [sort_filter]; exact h a b
  rw [← sort_length B, e, sort_length]

set_option maxHeartbeats 400000 in
theorem insertion_none (a : Option Addr) (cap : Nat) (w : World) : Calls Try.prog 89 #[.slice a 0 cap, .int .i64 0, .int .i64 0, .func (.func 73) #[] #[]] w fun e w' => e = .returned (.tuple #[]) ∧ w' = w := by
  go_enter Try.func89, Try.ntmps89
  go_wp2
  go_loopw [8] (fun i wr => i = .int .i64 1 ∧ wr = w) (fun _ _ => 0)
  case atStart => exact ⟨rfl, rfl⟩
  case round =>
    obtain ⟨rfl, rfl⟩ := hrel
    go_wp2
    go_end0
    exact ⟨rfl, rfl⟩

set_option maxHeartbeats 800000 in
theorem stable_none (a : Option Addr) (cap : Nat) (w : World) : Calls Try.prog 84 #[.slice a 0 cap, .int .i64 0, .func (.func 73) #[] #[]] w fun e w' => e = .returned (.tuple #[]) ∧ w' = w := by
  go_enter Try.func84, Try.ntmps84
  go_wp2
  go_loopw [7, 8] (fun i j wr => i = .int .i64 0 ∧ j = .int .i64 20 ∧ wr = w) (fun _ _ _ => 0)
  case atStart => exact ⟨rfl, rfl, rfl⟩
  case round =>
    obtain ⟨rfl, rfl, rfl⟩ := hrel
    go_wp2_with (go_at_call 89; refine (insertion_none _ _ _).mono ?_; rintro e w' ⟨rfl, rfl⟩)
    rename_i wq
    go_loopw [6] (fun i wr => i = .int .i64 20 ∧ wr = w') (fun _ _ => 0)
    case atStart => exact ⟨rfl, rfl⟩
    case round =>
      obtain ⟨rfl, rfl⟩ := hrel
      go_wp2
      go_end0
      exact ⟨rfl, rfl⟩

set_option maxHeartbeats 3200000 in
theorem stable_any (L : List Rc) (g N cap : Nat) (w : World) (hN : N = L.length) (hN2 : N ≤ 1000000000000000) (hB : Blo w g L) :
    Calls Try.prog 84 #[.slice (some ⟨g, 0, none⟩) N cap, .int .i64 N, .func (.func 73) #[] #[]] w fun e w' => e = .returned (.tuple #[]) ∧ Sorts w g (sortR L) w' := by
  have HN : Hid (N = L.length) := hN
  have hN3 : N ≤ 1152921504606846976 := by omega
  clear hN
  go_enter Try.func84, Try.ntmps84
  go_wp2
  go_loopw [7, 8] (fun i j wr => ∃ (u : Nat) (D R : List Rc) (Ds : List (List Rc)), i = .int .i64 u ∧ j = .int .i64 ((u : Int) + 20) ∧ u ≤ N ∧ Hid (St1 L D R 20 u Ds) ∧ Below g w wr ∧ Hid (Blo wr g (D ++ R))) (fun i _ _ => N - (intOf i).toNat)
  case atStart => exact ⟨0, [], L, [], rfl, rfl, Nat.zero_le _, ⟨rfl, rfl, full_nil _, Same.refl _⟩, Below.refl _ _, hB⟩
  case round =>
    clear hB
    obtain ⟨u, D, R, Ds, rfl, rfl, hu, hst, hbel, hblo⟩ := hrel
    have hlen : Hid (N = (D ++ R).length) := by rw [HN.out]; exact hid hst.out.same.length_eq.symm
    have hDR : Hid (D.length = u ∧ u + R.length = N) := by
      have h1 := hlen.out; have h2 := hst.out.len; rw [List.length_append] at h1; exact hid ⟨h2, by omega⟩
    by_cases hle : u + 20 ≤ N
    · have hle' : (u : Int) + 20 ≤ N := by omega
      obtain ⟨X, R', hR, hX⟩ := cut R (n := 20) (by have := hDR.out; omega)
      have HX := hid hX
      have hR1 := hid hR
      clear hX hR
      have hst2 : Hid (St1 L (D ++ sortR X) R' 20 (u + 20) (Ds ++ [sortR X])) := by have := hst.out; rw [hR1.out] at this; exact this.push HX.out
      have hb1 : Hid (Blo wr g (D ++ (X ++ R'))) := by rw [← hR1.out]; exact hblo
      have hl1 : Hid (N = (D ++ (X ++ R')).length) := by rw [← hR1.out]; exact hlen
      go_wp2_with (go_at_call 89; refine (insertion_at D X R' g N cap _ _ (by have := hDR.out; omega) (by have := hDR.out; have := HX.out; omega) _ hl1.out hN3 hb1.out).mono ?_; rintro e w1 ⟨rfl, hs1⟩)
      go_roundw
      case rel =>
        refine ⟨u + 20, D ++ sortR X, R', Ds ++ [sortR X], by go_num, by go_num, hle, hst2, hbel.trans hs1.bel, ?_⟩
        have := hs1.blo
        exact hid (by simpa using this)
      case measure => simp [intOf]; omega
    · have hle' : ¬ ((u : Int) + 20 ≤ N) := by omega
      have hb1 : Hid (Blo wr g (D ++ (R ++ []))) := by rw [List.append_nil]; exact hblo
      have hl1 : Hid (N = (D ++ (R ++ [])).length) := by rw [List.append_nil]; exact hlen
      have hBl : Hid (Blks 20 (Ds ++ [sortR R])) := hid (hst.out.full.blks (by rw [sort_length]; have := hDR.out; omega) (sort_srt R))
      have hSm : Hid (Same L (Ds ++ [sortR R]).flatten) := by
        rw [flatten_snoc, hst.out.flat]; exact hid (hst.out.same.trans ((Same.refl D).app (same_sort R)))
      have hfl : Hid (D ++ (sortR R ++ []) = (Ds ++ [sortR R]).flatten) := by rw [flatten_snoc, hst.out.flat, List.append_nil]; exact hid rfl
      go_wp2_with (go_at_call 89; refine (insertion_at D R [] g N cap _ _ (by have := hDR.out; omega) (by have := hDR.out; omega) _ hl1.out hN3 hb1.out).mono ?_; rintro e w1 ⟨rfl, hs1⟩)
      have hb2 : Hid (Blo w1 g (Ds ++ [sortR R]).flatten) := by have := hs1.blo; rw [hfl.out] at this; exact this
      have hbw : Below g w w1 := hbel.trans hs1.bel
      generalize Ds ++ [sortR R] = B0 at *
      clear hs1 hfl hst hblo hbel hlen hb1 hl1 hDR
      go_loopw [6] (fun i wr => ∃ (s : Nat) (B : List (List Rc)), i = .int .i64 s ∧ 20 ≤ s ∧ s ≤ 2 * N + 20 ∧ Hid (Blks s B) ∧ Hid (Same L B.flatten) ∧ Below g w wr ∧ Hid (Blo wr g B.flatten)) (fun i _ => N - (intOf i).toNat)
      case atStart => exact ⟨20, B0, rfl, Nat.le_refl _, by omega, hBl, hSm, hbw, hb2⟩
      case round =>
        clear hBl hSm hbw hb2
        obtain ⟨s, B, rfl, hs1, hs2, hBl, hSm, hbel, hblo⟩ := hrel
        have hlen : Hid (N = B.flatten.length) := by rw [HN.out]; exact hid hSm.out.length_eq.symm
        by_cases hsn : s < N
        · have hsn' : (s : Int) < N := by omega
          have hw2 : IntKind.i64.wrap (2 * (s : Int)) = 2 * (s : Int) := wrap64 (by omega) (by omega)
          have hw3 : IntKind.i64.wrap ((s : Int) * 2) = (s : Int) * 2 := wrap64 (by omega) (by omega)
          go_wp2_with fail
          generalize wr = W0 at *
          go_loopw [7, 8] (fun i j wr => ∃ (u : Nat) (D : List Rc) (Ds B : List (List Rc)), i = .int .i64 u ∧ j = .int .i64 ((u : Int) + 2 * s) ∧ u ≤ N ∧ Hid (St1 L D B.flatten (2 * s) u Ds) ∧ Hid (Blks s B) ∧ Below g w wr ∧ Hid (Blo wr g (D ++ B.flatten))) (fun i _ _ => N - (intOf i).toNat)
          case atStart => exact ⟨0, [], [], B, rfl, by go_num, Nat.zero_le _, ⟨rfl, rfl, full_nil _, hSm.out⟩, hBl, hbel, hblo⟩
          case round =>
            clear hSm hBl hbel hblo hlen B
            obtain ⟨u, D, Ds, B, rfl, rfl, hu, hst, hBl, hbel, hblo⟩ := hrel
            have hlen : Hid (N = (D ++ B.flatten).length) := by rw [HN.out]; exact hid hst.out.same.length_eq.symm
            have hDR : Hid (D.length = u ∧ u + B.flatten.length = N) := by
              have h1 := hlen.out; have h2 := hst.out.len; rw [List.length_append] at h1; exact hid ⟨h2, by omega⟩
            by_cases hle : u + 2 * s ≤ N
            · have hle' : (u : Int) + 2 * s ≤ N := by omega
              obtain ⟨X, Y, r, hr, hX, hY, sX, sY, hBr⟩ := hBl.out.two (by omega) (by have := hDR.out; omega)
              have HX := hid hX
              have HY := hid hY
              have HR := hid hr
              have SX := hid sX
              have SY := hid sY
              have HBr := hid hBr
              clear hX hY hr sX sY hBr
              have hst2 : Hid (St1 L (D ++ sortR (X ++ Y)) r.flatten (2 * s) (u + 2 * s) (Ds ++ [sortR (X ++ Y)])) := by
                have := hst.out
                rw [HR.out, List.flatten_cons, List.flatten_cons, ← List.append_assoc] at this
                exact this.push (by have := HX.out; have := HY.out; simp; omega)
              have c1 : Hid (D ++ (X ++ (Y ++ r.flatten)) = D ++ B.flatten) := by rw [HR.out, List.flatten_cons, List.flatten_cons]; exact hid rfl
              go_wp2_with (go_at_call 90; refine (sym_at D X Y r.flatten _ _ SX.out SY.out (by have := HX.out; omega) (by have := HY.out; omega) c1.out rfl g N cap _ _ _ (by have := hDR.out; omega) (by have := hDR.out; have := HX.out; omega) (by have := hDR.out; have := HX.out; have := HY.out; omega) _ hlen.out hN3 hblo.out).mono ?_; rintro e w1 ⟨rfl, hs1⟩)
              go_roundw
              case rel =>
                refine ⟨u + 2 * s, D ++ sortR (X ++ Y), Ds ++ [sortR (X ++ Y)], r, by go_num, by go_num, hle, hst2, HBr, hbel.trans hs1.bel, ?_⟩
                have := hs1.blo
                exact hid (by simpa using this)
              case measure => simp [intOf]; omega
            · have hle' : ¬ ((u : Int) + 2 * s ≤ N) := by omega
              by_cases hms : u + s < N
              · have hms' : (u : Int) + s < N := by omega
                obtain ⟨X, Y, hr, hX, sX, sY⟩ := hBl.out.last (by omega) (by have := hDR.out; omega) (by have := hDR.out; omega)
                have HR := hid hr
                have HX := hid hX
                have SX := hid sX
                have SY := hid sY
                clear hX hr sX sY
                have hY : Hid (X.length + Y.length = B.flatten.length) := by rw [HR.out]; exact hid (by simp)
                have c1 : Hid (D ++ (X ++ (Y ++ [])) = D ++ B.flatten) := by rw [HR.out, List.append_nil]; exact hid rfl
                have c2 : Hid (D ++ (sortR (X ++ Y) ++ []) = (Ds ++ [sortR (X ++ Y)]).flatten) := by rw [flatten_snoc, hst.out.flat, List.append_nil]; exact hid rfl
                have hBl2 : Hid (Blks (2 * s) (Ds ++ [sortR (X ++ Y)])) := hid (hst.out.full.blks (by rw [sort_length]; have := hDR.out; have := hY.out; simp; omega) (sort_srt _))
                have hSm2 : Hid (Same L (Ds ++ [sortR (X ++ Y)]).flatten) := by
                  have := hst.out.same
                  rw [flatten_snoc, hst.out.flat]; rw [HR.out] at this
                  exact hid (this.trans ((Same.refl D).app (same_sort _)))
                go_wp2_with (go_at_call 90; refine (sym_at D X Y [] _ _ SX.out SY.out (by have := HX.out; omega) (by have := HX.out; have := hY.out; have := hDR.out; omega) c1.out c2.out g N cap _ _ _ (by have := hDR.out; omega) (by have := hDR.out; have := HX.out; omega) (by have := hDR.out; have := HX.out; have := hY.out; omega) _ hlen.out hN3 hblo.out).mono ?_; rintro e w1 ⟨rfl, hs1⟩)
                go_roundw
                case rel => exact ⟨2 * s, Ds ++ [sortR (X ++ Y)], by go_num, by omega, by omega, hBl2, hSm2, hbel.trans hs1.bel, hs1.blo⟩
                case measure => simp [intOf]; omega
              · have hms' : ¬ ((u : Int) + s < N) := by omega
                have c2 : Hid (D ++ B.flatten = (Ds ++ [B.flatten]).flatten) := by rw [flatten_snoc, hst.out.flat]; exact hid rfl
                have hBl2 : Hid (Blks (2 * s) (Ds ++ [B.flatten])) := hid (hst.out.full.blks (by have := hDR.out; omega) (hBl.out.small (by omega) (by have := hDR.out; omega)))
                have hSm2 : Hid (Same L (Ds ++ [B.flatten]).flatten) := by rw [← c2.out]; exact hid hst.out.same
                have hb2 : Hid (Blo wr g (Ds ++ [B.flatten]).flatten) := by rw [← c2.out]; exact hblo
                go_wp2_with fail
                go_roundw
                case rel => exact ⟨2 * s, Ds ++ [B.flatten], by go_num, by omega, by omega, hBl2, hSm2, hbel, hb2⟩
                case measure => simp [intOf]; omega
        · have hsn' : ¬ ((s : Int) < N) := by omega
          have hE : Hid (Blo wr g (sortR L)) := by
            rw [← hSm.out.sorted (hBl.out.small (by omega) (by have := hlen.out; omega))]; exact hblo
          go_wp2_with fail
          go_end0
          exact ⟨rfl, hbel, hE.out⟩
end Go.Proofs.Ytodkcagingnelab.Dy
