/- The walk of the document's Sorted. -/
import Derived.Test.YtodkcagingnelabDyCell
import Derived.Test.YtodkcagingnelabDyb
namespace Go.Proofs.Ytodkcagingnelab.Dy
open Go.RowKit Go.Proofs.Ytodkcagingnelab.Gn

theorem row_empty {α : Type} (K : Kind α) (e : TypeId) {w : World} {base g : Nat} (h1 : base ≤ g) (h2 : g < w.heap.size) : Row K e w base (.slice (some ⟨g, 0, none⟩) 0 0) [] :=
  .full g [] h1 ⟨by simp [maxLen], (fun h => by cases h), Or.inl rfl⟩ h2
theorem rob_cellsW {W : World} {b : Nat} {t : Rc} (hb : W.heap[b]? = some (rob t)) :
    W.cell? ⟨b, 0, none⟩ = some (.int .i64 t.sh) ∧ W.cell? ⟨b, 1, none⟩ = some (.int .i64 t.au) ∧ W.cell? ⟨b, 2, none⟩ = some (.int .i64 t.k) ∧ W.cell? ⟨b, 3, none⟩ = some (.int .i64 t.m) := by
  unfold rob at hb
  refine ⟨?_, ?_, ?_, ?_⟩ <;> simp [World.cell?, hb]
theorem row_cap {α : Type} {K : Kind α} {e : TypeId} {w : World} {base : Nat} {a : Option Addr} {cap : Nat} {L : List α} (h : Row K e w base (.slice a L.length cap) L) : L.length ≤ cap := by
  rcases h with ⟨-, rfl⟩ | h | ⟨g, hv, -⟩
  · exact Nat.zero_le _
  · rcases h.2 with ⟨-, hn⟩ | ⟨g, cap', cur, hv, -, -, hn, -⟩
    · omega
    · obtain ⟨-, -, rfl⟩ := Value.slice.inj hv; exact hn
  · obtain ⟨-, -, rfl⟩ := Value.slice.inj hv; exact Nat.le_refl _
theorem own_slice (g n c : Nat) : (Value.slice (some ⟨g, 0, none⟩) n c).ownBlock = some g := rfl
theorem lies_take {w : World} {a : Option Addr} {cap : Nat} {S : List Rc} (h : Lies kR w a cap S) (n : Nat) : Lies kR w a cap (S.take n) := by
  refine ⟨by have := h.len; simp; omega, h.nil, ?_⟩
  rcases h.at' with rfl | ⟨b, off, ha, hlt, hc⟩
  · exact Or.inl (by simp)
  · refine Or.inr ⟨b, off, ha, hlt, fun j u hj => hc j u ?_⟩
    rw [← kR.flat_take, List.getElem?_take] at hj
    split at hj
    · exact hj
    · cases hj
theorem lies_drop {w : World} {b off cap : Nat} {S : List Rc} (h : Lies kR w (some ⟨b, off, none⟩) cap S) (n cap' : Nat) : Lies kR w (some ⟨b, off + n * 4, none⟩) cap' (S.drop n) := by
  refine ⟨by have := h.len; simp; omega, (fun h => by cases h), ?_⟩
  rcases h.at' with rfl | ⟨b', off', ha, hlt, hc⟩
  · exact Or.inl (by simp)
  · cases ha
    refine Or.inr ⟨b, off + n * 4, rfl, hlt, fun j u hj => ?_⟩
    rw [← kR.flat_drop, List.getElem?_drop] at hj
    have := hc _ _ hj
    rwa [← Nat.add_assoc] at this
theorem lies_none {w : World} {a : Option Addr} {cap : Nat} (h : a ≠ none) : Lies kR w a cap [] := ⟨by simp [maxLen], fun h0 => absurd h0 h, Or.inl rfl⟩
theorem wrapW {x : Int} (h1 : -9223372036854775808 ≤ x) (h2 : x ≤ 9223372036854775807) : IntKind.i64.wrap x = x := by
  simp [IntKind.wrap, IntKind.bits, IntKind.signed]
  omega

theorem gt_ways (x r : Rc) : (Hid (gtB x r = true) ∧ r.sh < x.sh) ∨ (Hid (gtB x r = true) ∧ ¬ r.sh < x.sh ∧ (x.sh == r.sh) = true ∧ r.au < x.au) ∨ (Hid (gtB x r = false) ∧ ¬ r.sh < x.sh ∧ (x.sh == r.sh) = true ∧ ¬ r.au < x.au) ∨ (Hid (gtB x r = false) ∧ ¬ r.sh < x.sh ∧ (x.sh == r.sh) = false) := by
  by_cases h1 : r.sh < x.sh
  · exact Or.inl ⟨gtB_true.2 (Or.inl h1), h1⟩
  by_cases h2 : x.sh = r.sh
  · by_cases h3 : r.au < x.au
    · exact Or.inr (Or.inl ⟨gtB_true.2 (Or.inr ⟨h2, h3⟩), h1, by simpa using h2, h3⟩)
    · exact Or.inr (Or.inr (Or.inl ⟨gtB_false.2 (by omega), h1, by simpa using h2, h3⟩))
  · exact Or.inr (Or.inr (Or.inr ⟨gtB_false.2 (by omega), h1, by simpa using h2⟩))
def cnd (S : List Rc) (r : Rc) (n : Nat) : Bool := decide (0 < n) && gtB (S.getD (n - 1) zR) r

set_option maxRecDepth 10000 in
set_option maxHeartbeats 4000000 in
theorem refSorted_any (L : List Rc) (v : Value) (w : World) (h : At kR w v L) (hN : L.length * 32 ≤ 140737488355328) :
    Calls Try.prog 46 #[v] w fun e w' => ∃ v', e = .returned v' ∧ Row kR 87 w' w.heap.size v' (sortR L) ∧ Below w.heap.size w w' := by
  have hm := h.len
  unfold maxLen at hm
  obtain ⟨a, c, rfl, hl⟩ := h
  go_enter Try.func46, Try.ntmps46
  go_wp2
  go_loopw [9, 3] (fun i u wr => ∃ k : Nat, k ≤ L.length ∧ i = .int .i64 k ∧ Row kR 87 wr w.heap.size u ((L.take k).foldl insR []) ∧ Hid (k = 0 → u = .slice none 0 0) ∧ Below w.heap.size w wr) (fun i _ _ => L.length - (intOf i).toNat)
  case atStart => exact ⟨0, Nat.zero_le _, rfl, by simpa using Row.nil, fun _ => rfl, Below.refl _ _⟩
  case round =>
    obtain ⟨k, hk, rfl, hr, hz, hb⟩ := hrel
    by_cases hlt : k < L.length
    · have hlt' : (k : Int) < L.length := by omega
      obtain ⟨b, off, rfl, hbl, e1, e2, e3, e4⟩ := rc_cells (hl.below hb) hlt
      have hnew : Hid ((L.take (k + 1)).foldl insR [] = insR ((L.take k).foldl insR []) (L.getD k zR)) := by rw [take_at hlt, List.foldl_append]; rfl
      have hSl : Hid (((L.take k).foldl insR []).length = k) := by rw [foldl_length]; exact hid (by simp; omega)
      generalize (L.take k).foldl insR [] = S at *
      generalize L.getD k zR = r at *
      by_cases h0 : k = 0
      · have hS0 : S = [] := List.eq_nil_of_length_eq_zero (by rw [hSl.out]; exact h0)
        subst hS0
        have hu := hz.out h0
        subst hu
        have hb1 := bel_alloc hb (rob r)
        have hB : (wr.alloc (rob r)).heap[wr.heap.size]? = some (rob r) := heap_alloc_at _ _ _ rfl
        unfold rob at hb1 hB
        have hkL : Hid (k + 1 ≤ L.length) := hid (by omega)
        have hIns : Hid (([] : List Rc) ++ [r] ++ [] = insR [] r) := hid rfl
        clear hr hz hSl h0
        go_wp2_with fail
        generalize wr.alloc (.cells #[.int .i64 r.sh, .int .i64 r.au, .int .i64 r.k, .int .i64 r.m] 87) = W1 at *
        generalize wr.heap.size = Z at *
        clear e1 e2 e3 e4 hb hbl
        go_loopw [6] (fun i X => i = .int .i64 0 ∧ Below W1.heap.size W1 X) (fun _ _ => 0)
        case atStart => exact ⟨rfl, Below.refl _ _⟩
        case round =>
          obtain ⟨rfl, hbX⟩ := hrel
          generalize wr = X0 at *
          go_upto_region 6 with fail
          go_quiet (fail)
          have hbc := below_drewN hbX nq
          generalize X0.drewN nq = X at *
          go_upto_region 8 with fail
          have hBX := (hbc.block _ (lt_of_block hB)).trans hB
          have hZX := lt_of_block hBX
          have hbw : Below w.heap.size w X := hb1.trans (hbc.mono hb1.size)
          have hwX := hbw.size
          have keepB : ∀ Y : World, Below X.heap.size X Y → Y.cell? ⟨Z, 0, none⟩ = some (.int .i64 r.sh) ∧ Y.cell? ⟨Z, 1, none⟩ = some (.int .i64 r.au) ∧ Y.cell? ⟨Z, 2, none⟩ = some (.int .i64 r.k) ∧ Y.cell? ⟨Z, 3, none⟩ = some (.int .i64 r.m) := fun Y hY => rob_cellsW ((hY.block _ hZX).trans hBX)
          clear hbX hbc hB hBX hb1
          go_region_held3 (fun Y => Y.cell? ⟨Z, 0, none⟩ = some (.int .i64 r.sh) ∧ Y.cell? ⟨Z, 1, none⟩ = some (.int .i64 r.au) ∧ Y.cell? ⟨Z, 2, none⟩ = some (.int .i64 r.k) ∧ Y.cell? ⟨Z, 3, none⟩ = some (.int .i64 r.m))
            ((refine keepB _ ?_; repeat (first | exact hb4 | exact hb3 | exact hb2 | exact Below.refl _ _ | refine Below.drew ?_ | refine bel_alloc ?_ _)))
            (first
              | (refine step_append elemR _ rfl (.tmp 52) (.tmp 55) rfl X.heap.size (.slice (some ⟨_, 0, none⟩) 0 0) [] rfl (row_empty kR _ (by first | omega | (simp; done) | (simp; omega)) (by first | omega | (simp; done) | (simp; omega))) none 0 0 [] rfl rfl (lies_nil _ _) (by simp [maxLen]) (by simp) (by first | omega | (simp; done) | (simp; omega)) ?_
                 intro v1 w2 hown hgrow hat _
                 have hb2 := below_grown (B := X.heap.size) (w := X) (by repeat (first | exact Below.refl _ _ | refine Below.drew ?_ | refine bel_alloc ?_ _)) hgrow (row_empty kR 87 (base := X.heap.size) (by first | omega | (simp; done) | (simp; omega)) (by first | omega | (simp; done) | (simp; omega))) (Nat.le_refl _) (by first | omega | (simp; done) | (simp; omega))
                 rw [List.nil_append] at hown
                 have hz2 := hgrow.size
                 have hs2 := hb2.size
                 simp only [own_slice, Option.some.injEq] at hat
                 try simp at hz2
                 try simp at hat)
              | (refine step_append elemR _ rfl (.tmp 56) (.tmp 58) rfl X.heap.size v1 [] rfl (by repeat (first | exact hown | refine Row.drew ?_ | refine Row.alloc ?_ _)) _ 1 1 [r] rfl rfl (lies_one (by repeat (first | exact heap_alloc_at _ _ _ (by first | omega | (simp; done) | (simp; omega)) | refine (Below.heap_alloc _ _ _ (by first | omega | (simp; done) | (simp; omega))).trans ?_ | refine (hgrow.block _ (by first | omega | (simp; done) | (simp; omega)) (by simp only [own_slice, ne_eq, Option.some.injEq]; omega)).trans ?_ | rw [heap_drew])) rfl _) (by simp [maxLen]) (by simp) (by first | omega | (simp; done) | (simp; omega)) ?_
                 intro v3 w3 hown3 hgrow3 hat3 _
                 have hb3 := below_grown (K := kR) (e := 87) (base := X.heap.size) (L := []) (B := X.heap.size) (w := X) (by repeat (first | exact hb2 | refine Below.drew ?_ | refine bel_alloc ?_ _)) hgrow3 (by repeat (first | exact hown | refine Row.drew ?_ | refine Row.alloc ?_ _)) (Nat.le_refl _) (by first | omega | (simp; done) | (simp; omega))
                 have hs3 := hb3.size)
              | (refine step_append elemR _ rfl (.tmp 59) (.tmp 62) rfl X.heap.size v3 ([] ++ [r]) rfl (by repeat (first | exact hown3 | refine Row.drew ?_ | refine Row.alloc ?_ _)) none 0 0 [] rfl rfl (lies_nil _ _) (by simp [maxLen]) (by simp) (by first | omega | (simp; done) | (simp; omega)) ?_
                 intro v4 w4 hown4 hgrow4 hat4 _
                 have hb4 := below_grown (K := kR) (e := 87) (base := X.heap.size) (L := [] ++ [r]) (B := X.heap.size) (w := X) (by repeat (first | exact hb3 | refine Below.drew ?_ | refine bel_alloc ?_ _)) hgrow4 (by repeat (first | exact hown3 | refine Row.drew ?_ | refine Row.alloc ?_ _)) (Nat.le_refl _) (by first | omega | (simp; done) | (simp; omega)))
              | fail)
          all_goals
            have hfin : Row kR 87 w4 w.heap.size v4 ((L.take (k + 1)).foldl insR []) := by rw [hnew.out, ← hIns.out]; exact hown4.mono hwX
            have hbf : Below w.heap.size w w4 := hbw.trans (hb4.mono hwX)
            have hk1 : k + 1 ≤ L.length := hkL.out
            go_wp2_with fail
            go_roundw
            · exact ⟨k + 1, hk1, by go_num, hfin, fun h => by omega, hbf⟩
            · simp [intOf]; omega
      · obtain ⟨a3, c3, rfl, hr', hl3⟩ := row_at hr
        have hne : S ≠ [] := by intro h; have := hSl.out; rw [h] at this; simp at this; omega
        obtain ⟨b3, off3, rfl⟩ : ∃ b3 off3, a3 = some ⟨b3, off3, none⟩ := by
          rcases hl3.at' with h | ⟨b3, off3, h, -⟩
          · exact absurd h hne
          · exact ⟨b3, off3, h⟩
        have hr1 := hr.alloc (rob r)
        have hb1 := bel_alloc hb (rob r)
        have hB : (wr.alloc (rob r)).heap[wr.heap.size]? = some (rob r) := heap_alloc_at _ _ _ rfl
        unfold rob at hr1 hb1 hB
        clear hr hr' hl3
        go_wp2_with fail
        generalize wr.alloc (.cells #[.int .i64 r.sh, .int .i64 r.au, .int .i64 r.k, .int .i64 r.m] 87) = W1 at *
        generalize wr.heap.size = Z at *
        clear e1 e2 e3 e4 hb hbl
        have hSm : S.length ≤ 1000000000000000 := by have := hSl.out; omega
        go_loopw [6] (fun i X => ∃ n : Nat, n ≤ S.length ∧ i = .int .i64 n ∧ Hid (pos r S S.length = pos r S n) ∧ Below W1.heap.size W1 X) (fun i _ => (intOf i).toNat)
        case atStart => exact ⟨S.length, Nat.le_refl _, rfl, rfl, Below.refl _ _⟩
        case round =>
          obtain ⟨n, hn, rfl, hp, hbX⟩ := hrel
          generalize wr = X at *
          obtain ⟨a4, c4, hv4, -, hl4⟩ := row_at (hr1.below hbX)
          obtain ⟨rfl, -, rfl⟩ := Value.slice.inj hv4
          have hBX := (hbX.block _ (lt_of_block hB)).trans hB
          obtain ⟨z0, z1, z2, z3⟩ := rob_cellsW (t := r) hBX
          go_upto_region 6 with fail
          go_cut [49] from 15 to 48 (fun q wc => q = .bool (cnd S r n) ∧ Below W1.heap.size W1 wc)
          case first =>
            rcases Nat.eq_zero_or_pos n with rfl | hpos
            · have hd0 : decide (0 < (0 : Nat)) = false := rfl
              have hcn : Hid (cnd S r 0 = false) := rfl
              go_quiet (fail)
              go_wp2_with fail
              go_meet
              exact ⟨by rw [hcn.out], below_drewN hbX _⟩
            · obtain ⟨m, rfl⟩ : ∃ m, n = m + 1 := ⟨n - 1, by omega⟩
              have hd0 : decide (0 < m + 1) = true := by simp
              have hcn : Hid (cnd S r (m + 1) = gtB (S.getD m zR) r) := by unfold cnd; rw [hd0]; rfl
              obtain ⟨b5, off5, h5, hb5, d1, d2, -, -⟩ := rc_cells hl4 (i := m) (by omega)
              cases h5
              have hI1 : (m : Int) < S.length := by omega
              have hI2 : m < S.length := by omega
              have hW1 : IntKind.i64.wrap ((m : Int) + 1 - 1) = m := (wrapW (by omega) (by omega)).trans (by omega)
              have hW2 : IntKind.i64.wrap (m : Int) = m := wrapW (by omega) (by omega)
              generalize S.getD m zR = x at *
              rcases gt_ways x r with ⟨hg, g1⟩ | ⟨hg, g1, g2, g3⟩ | ⟨hg, g1, g2, g3⟩ | ⟨hg, g1, g2⟩
              · have g1' : decide (r.sh < x.sh) = true := decide_eq_true g1
                go_quiet (fail)
                go_wp2_with fail
                go_meet
                exact ⟨by rw [hcn.out, hg.out], below_drewN hbX _⟩
              · have g1' : decide (r.sh < x.sh) = false := decide_eq_false g1
                have g3' : decide (r.au < x.au) = true := decide_eq_true g3
                go_quiet (fail)
                go_wp2_with fail
                go_meet
                exact ⟨by rw [hcn.out, hg.out], below_drewN hbX _⟩
              · have g1' : decide (r.sh < x.sh) = false := decide_eq_false g1
                have g3' : decide (r.au < x.au) = false := decide_eq_false g3
                go_quiet (fail)
                go_wp2_with fail
                go_meet
                exact ⟨by rw [hcn.out, hg.out], below_drewN hbX _⟩
              · have g1' : decide (r.sh < x.sh) = false := decide_eq_false g1
                go_quiet (fail)
                go_wp2_with fail
                go_meet
                exact ⟨by rw [hcn.out, hg.out], below_drewN hbX _⟩
          case rest =>
            obtain ⟨rfl, hbc⟩ := hcut
            clear z0 z1 z2 z3 hBX hl4 hbX
            generalize wc = X at *
            cases hq : cnd S r n with
            | true =>
              obtain ⟨m, rfl⟩ : ∃ m, n = m + 1 := ⟨n - 1, by unfold cnd at hq; simp at hq; omega⟩
              have hgt : gtB (S.getD m zR) r = true := by unfold cnd at hq; simpa using hq
              have hN2 := hid (hp.out.trans (pos_go hgt))
              clear hq hgt hp
              go_wp2_with fail
              go_roundw
              case rel => exact ⟨m, by omega, by go_num, hN2, hbc⟩
              case measure => simp [intOf]
            | false =>
              have hP : Hid (pos r S S.length = n) := by
                rw [hp.out]
                rcases Nat.eq_zero_or_pos n with rfl | hpos
                · exact hid rfl
                · obtain ⟨m, rfl⟩ : ∃ m, n = m + 1 := ⟨n - 1, by omega⟩
                  exact hid (pos_stay (by unfold cnd at hq; simpa using hq))
              clear hq hp
              go_upto_region 8 with fail
              have hrX := hr1.below hbc
              have hcap := row_cap hrX
              have hlX : Lies kR X (some ⟨b3, off3, none⟩) c3 S := by
                obtain ⟨a4, c4, hv4, -, hl4⟩ := row_at hrX
                obtain ⟨rfl, -, rfl⟩ := Value.slice.inj hv4
                exact hl4
              have hlT := lies_take hlX n
              have hlD1 : c3 = n → ∀ q, Lies kR X (some ⟨b3, off3, none⟩) q (S.drop n) := fun h q => by
                have : S.drop n = [] := List.drop_eq_nil_of_le (by omega)
                rw [this]; exact lies_none (by simp)
              have hlD2 := lies_drop hlX n (c3 - n)
              have hBX := (hbc.block _ (lt_of_block hB)).trans hB
              have hZX := lt_of_block hBX
              have hbw : Below w.heap.size w X := hb1.trans (hbc.mono hb1.size)
              have hwX := hbw.size
              have hIns : Hid (S.take n ++ [r] ++ S.drop n = insR S r) := by unfold insR; rw [hP.out]; exact hid (by simp)
              have hSn : Hid (S.length = k) := hSl
              have hkL : Hid (k + 1 ≤ L.length) := hid (by omega)
              have hln : Hid (n = (S.take n).length) := hid (by simp; omega)
              have hlz : Hid ((S.take n).length = n) := hid hln.out.symm
              have hby : (S.length + 1) * 32 ≤ 140737488355328 := by have := hSl.out; omega
              have q1 : n ≤ c3 := by omega
              have q1' : (n : Int) ≤ c3 := by omega
              have q2' : (n : Int) ≤ S.length := by omega
              have keepB : ∀ Y : World, Below X.heap.size X Y → Y.cell? ⟨Z, 0, none⟩ = some (.int .i64 r.sh) ∧ Y.cell? ⟨Z, 1, none⟩ = some (.int .i64 r.au) ∧ Y.cell? ⟨Z, 2, none⟩ = some (.int .i64 r.k) ∧ Y.cell? ⟨Z, 3, none⟩ = some (.int .i64 r.m) := fun Y hY => rob_cellsW ((hY.block _ hZX).trans hBX)
              clear hlX hrX hr1 hbc hB hBX hb1 hP
              by_cases hcn : c3 = n
              · obtain rfl : n = c3 := hcn.symm
                have hlD0 := hlD1 rfl
                clear hlD1 hcn
                go_region_held3 (fun Y => Y.cell? ⟨Z, 0, none⟩ = some (.int .i64 r.sh) ∧ Y.cell? ⟨Z, 1, none⟩ = some (.int .i64 r.au) ∧ Y.cell? ⟨Z, 2, none⟩ = some (.int .i64 r.k) ∧ Y.cell? ⟨Z, 3, none⟩ = some (.int .i64 r.m))
                  ((refine keepB _ ?_; repeat (first | exact hb4 | exact hb3 | exact hb2 | exact Below.refl _ _ | refine Below.drew ?_ | refine bel_alloc ?_ _)))
                  (first
                    | (refine step_append elemR _ rfl (.tmp 52) (.tmp 55) rfl X.heap.size (.slice (some ⟨_, 0, none⟩) 0 0) [] rfl (row_empty kR _ (by first | omega | (simp; done) | (simp; omega)) (by first | omega | (simp; done) | (simp; omega))) (some ⟨b3, off3, none⟩) n n (S.take n) rfl hln.out (by repeat (first | exact hlT | refine Lies.drew ?_ | refine Lies.alloc ?_ _)) (by simp [maxLen]; omega) (by simp; omega) (by first | omega | (simp; done) | (simp; omega)) ?_
                       intro v1 w2 hown hgrow hat _
                       have hb2 := below_grown (B := X.heap.size) (w := X) (by repeat (first | exact Below.refl _ _ | refine Below.drew ?_ | refine bel_alloc ?_ _)) hgrow (row_empty kR 87 (base := X.heap.size) (by first | omega | (simp; done) | (simp; omega)) (by first | omega | (simp; done) | (simp; omega))) (Nat.le_refl _) (by first | omega | (simp; done) | (simp; omega))
                       rw [List.nil_append] at hown
                       have hz2 := hgrow.size
                       have hs2 := hb2.size
                       simp only [own_slice, Option.some.injEq] at hat
                       try simp at hz2
                       try simp at hat)
                    | (refine step_append elemR _ rfl (.tmp 56) (.tmp 58) rfl X.heap.size v1 (S.take n) rfl (by repeat (first | exact hown | refine Row.drew ?_ | refine Row.alloc ?_ _)) _ 1 1 [r] rfl rfl (lies_one (by repeat (first | exact heap_alloc_at _ _ _ (by first | omega | (simp; done) | (simp; omega)) | refine (Below.heap_alloc _ _ _ (by first | omega | (simp; done) | (simp; omega))).trans ?_ | refine (hgrow.block _ (by first | omega | (simp; done) | (simp; omega)) (by simp only [own_slice, ne_eq, Option.some.injEq]; omega)).trans ?_ | rw [heap_drew])) rfl _) (by simp [maxLen]; omega) (by simp; omega) (by first | omega | (simp; done) | (simp; omega)) ?_
                       intro v3 w3 hown3 hgrow3 hat3 _
                       have hb3 := below_grown (K := kR) (e := 87) (base := X.heap.size) (L := S.take n) (B := X.heap.size) (w := X) (by repeat (first | exact hb2 | refine Below.drew ?_ | refine bel_alloc ?_ _)) hgrow3 (by repeat (first | exact hown | refine Row.drew ?_ | refine Row.alloc ?_ _)) (Nat.le_refl _) (by first | omega | (simp; done) | (simp; omega))
                       have hs3 := hb3.size)
                    | (refine step_append elemR _ rfl (.tmp 59) (.tmp 62) rfl X.heap.size v3 (S.take n ++ [r]) rfl (by repeat (first | exact hown3 | refine Row.drew ?_ | refine Row.alloc ?_ _)) _ _ _ (S.drop n) rfl (by first | (simp; done) | (simp; omega)) (by repeat (first | exact (hlD0 _).below hb3 | exact hlD2.below hb3 | refine Lies.drew ?_ | refine Lies.alloc ?_ _)) (by simp [maxLen]; omega) (by simp; omega) (by first | omega | (simp; done) | (simp; omega)) ?_
                       intro v4 w4 hown4 hgrow4 hat4 _
                       have hb4 := below_grown (K := kR) (e := 87) (base := X.heap.size) (L := S.take n ++ [r]) (B := X.heap.size) (w := X) (by repeat (first | exact hb3 | refine Below.drew ?_ | refine bel_alloc ?_ _)) hgrow4 (by repeat (first | exact hown3 | refine Row.drew ?_ | refine Row.alloc ?_ _)) (Nat.le_refl _) (by first | omega | (simp; done) | (simp; omega)))
                    | fail)
                all_goals
                  have hfin : Row kR 87 w4 w.heap.size v4 ((L.take (k + 1)).foldl insR []) := by rw [hnew.out, ← hIns.out]; exact hown4.mono hwX
                  have hbf : Below w.heap.size w w4 := hbw.trans (hb4.mono hwX)
                  have hk1 : k + 1 ≤ L.length := hkL.out
                  go_wp2_with fail
                  go_roundw
                  · exact ⟨k + 1, hk1, by go_num, hfin, fun h => by omega, hbf⟩
                  · simp [intOf]; omega
              · go_region_held3 (fun Y => Y.cell? ⟨Z, 0, none⟩ = some (.int .i64 r.sh) ∧ Y.cell? ⟨Z, 1, none⟩ = some (.int .i64 r.au) ∧ Y.cell? ⟨Z, 2, none⟩ = some (.int .i64 r.k) ∧ Y.cell? ⟨Z, 3, none⟩ = some (.int .i64 r.m))
                  ((refine keepB _ ?_; repeat (first | exact hb4 | exact hb3 | exact hb2 | exact Below.refl _ _ | refine Below.drew ?_ | refine bel_alloc ?_ _)))
                  (first
                    | (refine step_append elemR _ rfl (.tmp 52) (.tmp 55) rfl X.heap.size (.slice (some ⟨_, 0, none⟩) 0 0) [] rfl (row_empty kR _ (by first | omega | (simp; done) | (simp; omega)) (by first | omega | (simp; done) | (simp; omega))) (some ⟨b3, off3, none⟩) n c3 (S.take n) rfl hln.out (by repeat (first | exact hlT | refine Lies.drew ?_ | refine Lies.alloc ?_ _)) (by simp [maxLen]; omega) (by simp; omega) (by first | omega | (simp; done) | (simp; omega)) ?_
                       intro v1 w2 hown hgrow hat _
                       have hb2 := below_grown (B := X.heap.size) (w := X) (by repeat (first | exact Below.refl _ _ | refine Below.drew ?_ | refine bel_alloc ?_ _)) hgrow (row_empty kR 87 (base := X.heap.size) (by first | omega | (simp; done) | (simp; omega)) (by first | omega | (simp; done) | (simp; omega))) (Nat.le_refl _) (by first | omega | (simp; done) | (simp; omega))
                       rw [List.nil_append] at hown
                       have hz2 := hgrow.size
                       have hs2 := hb2.size
                       simp only [own_slice, Option.some.injEq] at hat
                       try simp at hz2
                       try simp at hat)
                    | (refine step_append elemR _ rfl (.tmp 56) (.tmp 58) rfl X.heap.size v1 (S.take n) rfl (by repeat (first | exact hown | refine Row.drew ?_ | refine Row.alloc ?_ _)) _ 1 1 [r] rfl rfl (lies_one (by repeat (first | exact heap_alloc_at _ _ _ (by first | omega | (simp; done) | (simp; omega)) | refine (Below.heap_alloc _ _ _ (by first | omega | (simp; done) | (simp; omega))).trans ?_ | refine (hgrow.block _ (by first | omega | (simp; done) | (simp; omega)) (by simp only [own_slice, ne_eq, Option.some.injEq]; omega)).trans ?_ | rw [heap_drew])) rfl _) (by simp [maxLen]; omega) (by simp; omega) (by first | omega | (simp; done) | (simp; omega)) ?_
                       intro v3 w3 hown3 hgrow3 hat3 _
                       have hb3 := below_grown (K := kR) (e := 87) (base := X.heap.size) (L := S.take n) (B := X.heap.size) (w := X) (by repeat (first | exact hb2 | refine Below.drew ?_ | refine bel_alloc ?_ _)) hgrow3 (by repeat (first | exact hown | refine Row.drew ?_ | refine Row.alloc ?_ _)) (Nat.le_refl _) (by first | omega | (simp; done) | (simp; omega))
                       have hs3 := hb3.size)
                    | (refine step_append elemR _ rfl (.tmp 59) (.tmp 62) rfl X.heap.size v3 (S.take n ++ [r]) rfl (by repeat (first | exact hown3 | refine Row.drew ?_ | refine Row.alloc ?_ _)) _ (S.length - n) (c3 - n) (S.drop n) rfl (by simp) (by repeat (first | exact (hlD1 hcn).below hb3 | exact hlD2.below hb3 | refine Lies.drew ?_ | refine Lies.alloc ?_ _)) (by simp [maxLen]; omega) (by simp; omega) (by first | omega | (simp; done) | (simp; omega)) ?_
                       intro v4 w4 hown4 hgrow4 hat4 _
                       have hb4 := below_grown (K := kR) (e := 87) (base := X.heap.size) (L := S.take n ++ [r]) (B := X.heap.size) (w := X) (by repeat (first | exact hb3 | refine Below.drew ?_ | refine bel_alloc ?_ _)) hgrow4 (by repeat (first | exact hown3 | refine Row.drew ?_ | refine Row.alloc ?_ _)) (Nat.le_refl _) (by first | omega | (simp; done) | (simp; omega)))
                    | fail)
                all_goals
                  have hfin : Row kR 87 w4 w.heap.size v4 ((L.take (k + 1)).foldl insR []) := by rw [hnew.out, ← hIns.out]; exact hown4.mono hwX
                  have hbf : Below w.heap.size w w4 := hbw.trans (hb4.mono hwX)
                  have hk1 : k + 1 ≤ L.length := hkL.out
                  go_wp2_with fail
                  go_roundw
                  · exact ⟨k + 1, hk1, by go_num, hfin, fun h => by omega, hbf⟩
                  · simp [intOf]; omega
    · have hke : L.take k = L := List.take_of_length_le (by omega)
      rw [hke] at hr
      obtain ⟨a3, c3, rfl, -, -⟩ := row_at hr
      go_wp2
      go_ret
      exact ⟨_, rfl, hr, hb⟩
end Go.Proofs.Ytodkcagingnelab.Dy
