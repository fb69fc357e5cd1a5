/- The walk of the document's AddUse, where nothing is wrong ahead of the pace. -/
import Derived.Test.YtdifndnogpcbkaaWalkh
namespace Go.Proofs.Ytdifndnogpcbkaa
open Go.RowKit

/-- What the walk holds on to: the two boxes, the list that came in, and all that is elder. -/
structure St (w : World) (p : Pa) (x : Int × Int) (a : Option Addr) (L : List (Int × Int)) (W : World) : Prop where
  bel : Below w.heap.size w W
  lt : w.heap.size + 1 < W.heap.size
  pace : W.heap[w.heap.size]? = some (.cells #[.int .i64 p.t, .int .i64 p.c, .int .i64 p.s] 55)
  use : W.heap[w.heap.size + 1]? = some (.cells #[.int .i64 x.1, .int .i64 x.2] 58)
  ents : Ents W a L

theorem St.on {w W W' : World} {p : Pa} {x : Int × Int} {a : Option Addr} {L : List (Int × Int)} (h : St w p x a L W) (hb : Below W.heap.size W W') : St w p x a L W' := by
  have := h.lt
  have := hb.size
  exact ⟨h.bel.trans (hb.mono h.bel.size), by omega, (hb.block _ (by omega)).trans h.pace, (hb.block _ h.lt).trans h.use, h.ents.below hb⟩

set_option maxHeartbeats 4000000 in
theorem refAdd_main (p : Pa) (a : Option Addr) (cap : Nat) (L : List (Int × Int)) (x : Int × Int) (w : World) (hL : Ents w a L) (h1 : wrongP p = 0) (h2 : (uses L).1 = 0) (h3 : inU x = true) :
    Calls Try.prog 44 #[pv p, .slice a L.length cap, uv x] w (Answers w (addU p L x)) := by
  have hne : (wrongP p != 0) = false := by simpa using h1
  have hne2 : ((uses L).1 != 0) = false := by simpa using h2
  have hu : (uses [x]).1 = 0 := by rw [uses_one, h3]; rfl
  have H4 := hid (wrongAdd_form (L := L) h1 h2 h3)
  have H5 := hid (wrongAdd_none (L := L) h1 h2 h3)
  clear h1 h2 h3
  unfold pv uv
  go_enter Try.func44, Try.ntmps44
  go_wp2_with fail
  refine (refWrong_any p _).mono ?_
  rintro e w1 ⟨rfl, hb1⟩
  obtain ⟨bb, hs1, hp1, hx1⟩ := boxes hb1
  have S1 : St w p x a L w1 := ⟨bb, hs1, hp1, hx1, hL.below bb⟩
  generalize wrongP p = r at *
  clear hL hb1 bb hs1 hp1 hx1
  go_wp2_with fail
  refine (refUses_any a cap L _ S1.ents).mono ?_
  rintro e w2 ⟨rfl, hb2⟩
  generalize (uses L).1 = r1 at *
  generalize (uses L).2 = r2 at *
  have S2 := S1.on hb2
  have X0 := fun o => (use_cells (S2.on (below_alloc w2 o)).use).1
  have X1 := fun o => (use_cells (S2.on (below_alloc w2 o)).use).2
  clear S1 hb2
  go_wp2_with fail
  refine (refUses_one x _ _ (by simp)).mono ?_
  rintro e w3 ⟨rfl, hb3⟩
  rw [hu]
  generalize (uses [x]).2 = r3 at *
  have S3 : St w p x a L w3 := ((S2.on (below_alloc w2 _)).on (below_alloc _ _)).on hb3
  clear X0 X1 S2 hb3 hu
  go_upto_region 10 with fail
  have S4 := S3.on (below_alloc w3 (.cells #[.int .i64 0, .int .i64 r3] 25))
  generalize w3.alloc (.cells #[.int .i64 0, .int .i64 r3] 25) = w4 at *
  obtain ⟨X0, X1⟩ := use_cells S4.use
  clear S3
  by_cases hform : 0 < L.length ∧ x.1 < (L.getD (L.length - 1) (0, 0)).1
  · have h4 := H4.out hform
    have HP := hid ((addU_bad (by rw [h4]; decide)).trans (by rw [h4] : (([], wrongAdd p L x) : List (Int × Int) × Int) = ([], 2)))
    obtain ⟨hk1, hq⟩ := hform
    have hk0 : decide (0 < L.length) = true := decide_eq_true hk1
    have hE := S4.ents
    obtain ⟨hm, hE⟩ := hE
    unfold maxLen at hm
    rcases hE with rfl | ⟨b, off, rfl, hbl, hcell⟩
    · simp at hk1
    obtain ⟨c1, -⟩ := hcell (L.length - 1) (by omega)
    clear hcell H4 H5 h4
    generalize (L.getD (L.length - 1) (0, 0)).1 = pv at *
    go_quiet (fail)
    go_wp2
    go_ret2
    unfold Answers
    rw [HP.out]
    exact ⟨.slice none 0 0, rfl, World.ownsRow_nil _ _ _ _, below_drewN S4.bel _⟩
  have h5 := H5.out hform
  have HF := hid (wrongAdd_ok h5)
  have H1 := hid (addU_pace h5)
  have H2 := hid (addU_ok h5)
  clear H4 H5 h5
  go_cut [49] from 35 to 49 (fun s wc => s = .bool false ∧ St w p x a L wc)
  case first =>
    have hE := S4.ents
    obtain ⟨hm, hE⟩ := hE
    unfold maxLen at hm
    by_cases h0 : L.length = 0
    · have hk0 : decide (0 < L.length) = false := decide_eq_false (by omega)
      clear hE h0 hform
      go_quiet (fail)
      go_wp2
      go_meet
      exact ⟨rfl, S4.on (below_drewN (Below.refl _ _) _)⟩
    · have hk1 : 0 < L.length := by omega
      have hk0 : decide (0 < L.length) = true := decide_eq_true hk1
      have hq : (L.getD (L.length - 1) (0, 0)).1 ≤ x.1 := Int.not_lt.1 fun hh => hform ⟨hk1, hh⟩
      rcases hE with rfl | ⟨b, off, rfl, hbl, hcell⟩
      · simp at hk1
      obtain ⟨c1, -⟩ := hcell (L.length - 1) (by omega)
      clear hcell hform h0
      generalize (L.getD (L.length - 1) (0, 0)).1 = pv at *
      go_quiet (fail)
      go_wp2
      go_meet
      exact ⟨by rw [decide_eq_false (Int.not_lt.2 hq)], S4.on (below_drewN (Below.refl _ _) _)⟩
  case rest =>
    obtain ⟨rfl, S5⟩ := hcut
    generalize wc = w5 at *
    clear S4 X0 X1 hform
    have h1 := HF.out.pace.t1
    have h2 := HF.out.pace.t2
    obtain ⟨h3, h4, -, -⟩ := inU_true.1 HF.out.inx
    have hr : L.length * 16 ≤ 140737488351232 := by have := HF.out.few; omega
    have hle := recent_le (x.1 - p.t) L
    have hs1 := S5.lt
    have hs1' : w.heap.size + 2 ≤ w5.heap.size := hs1
    obtain ⟨i0, hi, hz0, hz1, hz2⟩ := info_parts infoUse
    go_upto_region 12 with fail
    go_cut [11] from 50 to 57 (fun v wc => wc.ownsRow (w.heap.size + 2) 58 2 v (out p L x).length (flat (out p L x)) ∧ Below (w.heap.size + 2) w5 wc)
    case first =>
      obtain ⟨P0, P1, P2⟩ := pace_cells S5.pace
      obtain ⟨X0, X1⟩ := use_cells S5.use
      have hL1 := S5.ents
      have hx1 := S5.use
      have hw1 : w.heap.size < w5.heap.size := by omega
      have Q0 : ∀ o, (w5.alloc o).cell? ⟨w.heap.size, 0, none⟩ = some (.int .i64 p.t) := fun o => (World.cell?_alloc_past _ _ _ hw1).trans P0
      have Q1 : ∀ o, (w5.alloc o).cell? ⟨w.heap.size, 1, none⟩ = some (.int .i64 p.c) := fun o => (World.cell?_alloc_past _ _ _ hw1).trans P1
      have Q2 : ∀ o, (w5.alloc o).cell? ⟨w.heap.size, 2, none⟩ = some (.int .i64 p.s) := fun o => (World.cell?_alloc_past _ _ _ hw1).trans P2
      have Z0 : ∀ o, (w5.alloc o).cell? ⟨w.heap.size + 1, 0, none⟩ = some (.int .i64 x.1) := fun o => (World.cell?_alloc_past _ _ _ hs1).trans X0
      have Z1 : ∀ o, (w5.alloc o).cell? ⟨w.heap.size + 1, 1, none⟩ = some (.int .i64 x.2) := fun o => (World.cell?_alloc_past _ _ _ hs1).trans X1
      clear S5
      go_region_law (first
        | (rw [if_pos (by simp [Region.wanted])]; go_simp; go_at_call 42; refine (refRecent_any p a cap L x.1 _ ?_ h1 h2 h3 h4 hr).mono ?_; exact hL1.below ((Below.refl _ _).drew)
           rintro e w2 ⟨v, rfl, hown, hb⟩
           have hb2 := below_drew_up (Nat.le_refl _) hb
           have hx2 := (hb2.block _ hs1).trans hx1
           obtain ⟨Y0, Y1⟩ := use_cells hx2
           have hs2 := hb2.size
           clear hb)
        | (rw [if_pos (by simp [Region.wanted])]; go_simp; go_at_call 42; refine (refRecent_any p a cap L x.1 _ ?_ h1 h2 h3 h4 hr).mono ?_; exact hL1.below (((Below.refl _ _).alloc (Nat.le_refl _) _).drew)
           rintro e w2 ⟨v, rfl, hown, hb⟩
           have hb2 := below_drew_alloc (Nat.le_refl _) hb
           have hn2 := block_drew_alloc hb
           have hs2 := hb2.size
           have hown := ownsRow_mono hown (base' := w5.heap.size) (by show _ ≤ (w5.heap.push _).size; simp)
           clear hb)
        | (refine step_append_own rfl (.tmp 54) (.tmp 56) 56 rfl w5.heap.size 58 i0 (.agg #[.int .i64 0, .int .i64 0]) 2 16 Try.underlying56 hi hz0 hz1 hz2 rfl (by decide) v _ _ (by simp [Act.eval]) (hown.alloc _) ⟨w2.heap.size, 0, none⟩ 1 1 [.int .i64 x.1, .int .i64 x.2] (by simp [Act.eval]) rfl (two_cells (heap_alloc_at _ _ _ rfl)) (by intro u hu; simp at hu; rcases hu with rfl | rfl <;> rfl) (by unfold maxLen; omega) (by omega) (by simp; omega) ?_
           intro v' w3 hown' hgrow
           have hb3 : Below w5.heap.size w5 w3 := (hb2.alloc hb2.size _).grown hgrow (by simp; omega) (ownBlock_ge hown)
           clear hgrow hown hb2)
        | (refine step_append_own rfl (.tmp 54) (.tmp 56) 56 rfl w5.heap.size 58 i0 (.agg #[.int .i64 0, .int .i64 0]) 2 16 Try.underlying56 hi hz0 hz1 hz2 rfl (by decide) v _ _ (by simp [Act.eval]) hown ⟨w5.heap.size, 0, none⟩ 1 1 [.int .i64 x.1, .int .i64 x.2] (by simp [Act.eval]) rfl (two_cells hn2) (by intro u hu; simp at hu; rcases hu with rfl | rfl <;> rfl) (by unfold maxLen; omega) (by omega) hs2 ?_
           intro v' w3 hown' hgrow
           have hb3 : Below w5.heap.size w5 w3 := hb2.grown hgrow hs2 (ownBlock_ge hown)
           clear hgrow hown hb2))
      all_goals (go_wp2_with fail; go_meet; exact ⟨own_out hown' hs1', hb3.mono hs1'⟩)
    case rest =>
      obtain ⟨hown, hb⟩ := hcut
      obtain ⟨a6, cap6, rfl, hcl, hcm, hE6⟩ := ents_of_owns hown
      have HO := hid hown
      have hp6 := (hb.block _ (by omega)).trans S5.pace
      have hsc := hb.size
      have bbc : Below w.heap.size w wc := S5.bel.trans (hb.mono (by omega))
      have hall := out_all HF.out
      have hfew := out_few HF.out
      obtain ⟨-, -, c1, c2, s1, s2⟩ := HF.out.pace
      generalize addU p L x = R at *
      generalize out p L x = O at *
      clear hown hb hle hr h1 h2 h3 h4 HF S5 hi hz0 hz1 hz2
      generalize wc = w6 at *
      obtain ⟨hm, hE⟩ := hE6
      unfold maxLen at hm
      have HA := hid hall
      clear hall
      go_wp2
      go_loopw [12, 60] (fun t i wr => ∃ k : Nat, k ≤ O.length ∧ i = .int .i64 k ∧ t = .int .i64 (tot (O.take k)) ∧ Below w6.heap.size w6 wr) (fun _ i _ => O.length - (intOf i).toNat)
      case atStart => exact ⟨0, Nat.zero_le _, rfl, by simp [tot], Below.refl _ _⟩
      case round =>
        obtain ⟨k, hk, rfl, rfl, hbk⟩ := hrel
        have hsk := hbk.size
        by_cases hlt : k < O.length
        · rcases hE with rfl | ⟨b, off, rfl, hbl, hcell⟩
          · simp at hlt
          obtain ⟨e1, e2⟩ := hcell k hlt
          have hlt' : (k : Int) < O.length := by omega
          have e1 := (hbk.cell (p := ⟨b, off + k * 2, none⟩) hbl).trans e1
          have e2 := (hbk.cell (p := ⟨b, off + k * 2 + 1, none⟩) hbl).trans e2
          have hx := inU_true.1 (HA.out _ (getD_mem hlt))
          have ht := tot_bound (A := O.take k) fun u hu => HA.out u (List.mem_of_mem_take hu)
          have hlen := List.length_take_le k O
          have Htk : Hid (tot (O.take (k + 1)) = tot (O.take k) + (O.getD k (0, 0)).2) := hid (by rw [take_at hlt, tot_snoc])
          obtain ⟨-, -, x1, x2⟩ := hx
          clear hcell
          generalize O.getD k (0, 0) = y at *
          have t1 : 0 ≤ tot (O.take k) := ht.1
          have t2 : tot (O.take k) ≤ 1000000000 := by omega
          clear ht hlen
          generalize tot (O.take k) = t at *
          go_wp2
          go_roundw
          case rel => exact ⟨k + 1, by omega, by go_num, by rw [Htk.out], hbk.alloc hsk _⟩
          case measure => simp [intOf]; omega
        · have hkk : k = O.length := by omega
          have Hk : Hid (tot (O.take k) = tot O) := hid (by rw [hkk, List.take_length])
          obtain ⟨P0, P1, P2⟩ := pace_cells ((hbk.block _ (by omega)).trans hp6)
          by_cases hq : p.c < O.length
          · have HR := hid (H1.out (Or.inl hq))
            generalize tot (O.take k) = t at *
            go_wp2
            go_ret2
            unfold Answers
            rw [HR.out]
            exact ⟨.slice none 0 0, rfl, World.ownsRow_nil _ _ _ _, bbc.trans (hbk.mono (by omega))⟩
          · by_cases hq2 : p.s < tot (O.take k)
            · have HR := hid (H1.out (Or.inr (by rw [← Hk.out]; exact hq2)))
              generalize tot (O.take k) = t at *
              have hq' : (O.length : Int) ≤ p.c := by omega
              clear hq
              go_wp2
              go_ret2
              unfold Answers
              rw [HR.out]
              exact ⟨.slice none 0 0, rfl, World.ownsRow_nil _ _ _ _, bbc.trans (hbk.mono (by omega))⟩
            · have HR := hid (H2.out (by rw [← Hk.out]; omega))
              generalize tot (O.take k) = t at *
              have hq' : (O.length : Int) ≤ p.c := by omega
              have hq2' : t ≤ p.s := by omega
              clear hq hq2
              go_wp2
              go_ret2
              unfold Answers
              rw [HR.out]
              exact ⟨.slice a6 O.length cap6, rfl, ownsRow_mono (ownsRow_below HO.out hbk) (by omega), bbc.trans (hbk.mono (by omega))⟩

theorem refAdd_any (p : Pa) (a : Option Addr) (cap : Nat) (L : List (Int × Int)) (x : Int × Int) (w : World) (hL : Ents w a L) :
    Calls Try.prog 44 #[pv p, .slice a L.length cap, uv x] w (Answers w (addU p L x)) := by
  by_cases h1 : wrongP p = 0
  · by_cases h2 : (uses L).1 = 0
    · cases h3 : inU x with
      | true => exact refAdd_main p a cap L x w hL h1 h2 h3
      | false => exact refAdd_x p a cap L x w hL h1 h2 h3
    · exact refAdd_uses p a cap L x w hL h1 h2
  · exact refAdd_pace p a cap L x w h1
end Go.Proofs.Ytdifndnogpcbkaa
