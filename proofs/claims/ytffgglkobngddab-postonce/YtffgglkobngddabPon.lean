/- The walk of the law PostOnce. -/
import Derived.Test.YtffgglkobngddabPom
namespace Go.Proofs.Ytffgglkobngddab.Po
open Go.RowKit Go.Proofs.Ytffgglkobngddab.Gn

/-- What the law holds on to: the sender, and the lists. -/
structure Un (w : World) (C : Nat) (s : Se) (a : Option Addr) (cap : Nat) (vp : Value) (put : List Tr) (vy : Value) (way : List Tr) (vg : Value) (got : List Tr) (W : World) : Prop where
  bel : Below w.heap.size w W
  sb : W.heap[C]? = some (so s a cap)
  four : Four W (C + 1) (.slice a s.kept.length cap) s.kept vp put vy way vg got
  lt : w.heap.size ≤ C

variable {w W W' : World} {C : Nat} {s : Se} {a : Option Addr} {cap : Nat} {vp vy vg : Value} {put way got : List Tr}

theorem Un.on (h : Un w C s a cap vp put vy way vg got W) (hb : Below W.heap.size W W') : Un w C s a cap vp put vy way vg got W' :=
  ⟨h.bel.trans (hb.mono h.bel.size), (hb.block _ (lt_of_block h.sb)).trans h.sb, h.four.on hb, h.lt⟩
theorem Un.ltC (h : Un w C s a cap vp put vy way vg got W) : C < W.heap.size := lt_of_block h.sb
theorem Un.lies (h : Un w C s a cap vp put vy way vg got W) : Lies kT W a cap s.kept := by
  obtain ⟨a', cap', h1, -, h2⟩ := row_at' h.four.r1
  obtain ⟨rfl, -, rfl⟩ := Value.slice.inj h1
  exact h2

/-- Another sender, whose list is new. -/
theorem Un.kept (h : Un w C s a cap vp put vy way vg got W) (hb : Below W.heap.size W W') (s' : Se) (a' : Option Addr) (cap' : Nat) (hr : Row kT 42 W' W.heap.size (.slice a' s'.kept.length cap') s'.kept) :
    Un w C s' a' cap' vp put vy way vg got ((W'.setCell ⟨C, 0, none⟩ (.int .i64 s'.sent)).setCell ⟨C, 1, none⟩ (.slice a' s'.kept.length cap')) := by
  have l := h.lt
  have hC := h.ltC
  have hs := (hb.block _ hC).trans h.sb
  refine ⟨((h.bel.trans (hb.mono h.bel.size)).setCell (by simp; omega) _).setCell (by simp; omega) _, ?_, ((h.four.fresh hb hr hC).set ⟨C, 0, none⟩ (Nat.lt_succ_self _) _).set ⟨C, 1, none⟩ (Nat.lt_succ_self _) _, l⟩
  have h1 := heap_setCell_same W' C 0 _ _ (.int .i64 s'.sent) hs
  have h2 := heap_setCell_same _ C 1 _ _ (.slice a' s'.kept.length cap') h1
  rw [h2]; simp [so]

theorem grown_below (h : Un w C s a cap vp put vy way vg got W) {v : Value} {L : List Tr} (hr : Row kT 42 W (C + 1) v L) (hg : W.grownBy W' v.ownBlock) : Below (C + 1) W W' :=
  below_grown (Below.refl _ _) hg hr (Nat.le_refl _) h.ltC

theorem Un.more_put (h : Un w C s a cap vp put vy way vg got W) (hg : W.grownBy W' vp.ownBlock) {v' : Value} {L' : List Tr} (hr : Row kT 42 W' (C + 1) v' L') (hat : ∀ k, v'.ownBlock = some k → vp.ownBlock = some k ∨ W.heap.size ≤ k) :
    Un w C s a cap v' L' vy way vg got W' := by
  have hb := grown_below h h.four.r2 hg
  have l := h.lt
  exact ⟨h.bel.trans (hb.mono (by omega)), (hb.block _ (Nat.lt_succ_self _)).trans h.sb, (h.four.rot.grow hg hr hat).rot.rot.rot, l⟩
theorem Un.more_way (h : Un w C s a cap vp put vy way vg got W) (hg : W.grownBy W' vy.ownBlock) {v' : Value} {L' : List Tr} (hr : Row kT 42 W' (C + 1) v' L') (hat : ∀ k, v'.ownBlock = some k → vy.ownBlock = some k ∨ W.heap.size ≤ k) :
    Un w C s a cap vp put v' L' vg got W' := by
  have hb := grown_below h h.four.r3 hg
  have l := h.lt
  exact ⟨h.bel.trans (hb.mono (by omega)), (hb.block _ (Nat.lt_succ_self _)).trans h.sb, (h.four.rot.rot.grow hg hr hat).rot.rot, l⟩
theorem Un.more_got (h : Un w C s a cap vp put vy way vg got W) (hg : W.grownBy W' vg.ownBlock) {v' : Value} {L' : List Tr} (hr : Row kT 42 W' (C + 1) v' L') (hat : ∀ k, v'.ownBlock = some k → vg.ownBlock = some k ∨ W.heap.size ≤ k) :
    Un w C s a cap vp put vy way v' L' W' := by
  have hb := grown_below h h.four.r4 hg
  have l := h.lt
  exact ⟨h.bel.trans (hb.mono (by omega)), (hb.block _ (Nat.lt_succ_self _)).trans h.sb, (h.four.rot.rot.rot.grow hg hr hat).rot, l⟩

theorem lies_any {K : Kind Tr} {w : World} {ad : Addr} {c : Nat} {L : List Tr} (h : Lies K w (some ad) c L) (c' : Nat) : Lies K w (some ad) c' L := ⟨h.len, (fun h => by cases h), h.at'⟩
theorem but_one {L : List Tr} {j : Nat} {u : Tr} (h : u ∈ L.take j ++ L.drop (j + 1)) : u ∈ L := by
  rcases List.mem_append.1 h with h | h
  · exact List.mem_of_mem_take h
  · exact List.mem_of_mem_drop h

theorem fieldFault' (x y : Int) (w : World) : (Instr.field 44 (.agg #[.int .i64 x, .int .i64 y]) 0).run Try.prog w = .ok (.int .i64 x) w := by kernel_rfl

set_option maxRecDepth 10000 in
set_option maxHeartbeats 16000000 in
theorem once_any (b0 : Option Addr) (cap0 : Nat) (l : List Ac) (w : World) (hl : Lies kA w b0 cap0 l) :
    Calls Try.prog 7 #[.slice b0 l.length cap0] w fun e w' => e = .returned (.bool true) ∧ Below w.heap.size w w' := by
  have hm := hl.len
  unfold maxLen at hm
  go_enter Try.func7, Try.ntmps7
  go_wp2_with fail
  refine (alive_any _).mono ?_
  rintro e w1 ⟨rfl, bb1⟩
  by_cases hf : 200 < l.length
  · have hf' : (200 : Int) < l.length := by omega
    go_wp2
    go_ret
    exact ⟨rfl, bb1⟩
  have hf0 : l.length ≤ 200 := by omega
  have hf' : (l.length : Int) ≤ 200 := by omega
  clear hf
  have U0 : Un w w1.heap.size zeroS none 0 (.slice none 0 0) [] (.slice none 0 0) [] (.slice none 0 0) [] (w1.alloc (so zeroS none 0)) :=
    ⟨bb1.alloc bb1.size _, heap_alloc_at _ _ _ rfl, Four.nil _ _, bb1.size⟩
  unfold so at U0
  go_upto_region 6 with fail
  have U1 : Un w w1.heap.size zeroS none 0 (.slice none 0 0) [] (.slice none 0 0) [] (.slice none 0 0) [] (w1.alloc (.cells #[.int .i64 0, .slice none 0 0] 40)) := U0
  clear U0
  generalize w1.alloc (.cells #[.int .i64 0, .slice none 0 0] 40) = W1 at *
  generalize w1.heap.size = C at *
  go_wp2
  go_loopw [4, 5, 6, 7, 25] (fun p y g n i wr => ∃ (k : Nat) (s : Se) (a : Option Addr) (cap : Nat) (put way got : List Tr) (seen : Nat), k ≤ l.length ∧ i = .int .i64 k ∧ n = .int .i64 (seen : Int) ∧ Hid (Ok k s put way got seen) ∧ way.length ≤ 500 ∧ Un w C s a cap p put y way g got wr) (fun _ _ _ _ i _ => l.length - (intOf i).toNat)
  case atStart => exact ⟨0, zeroS, none, 0, [], [], [], 0, Nat.zero_le _, rfl, rfl, Ok.zero, by simp, U1⟩
  case round =>
    obtain ⟨k, s, a, cap, put, way, got, seen, hk, rfl, rfl, hok, hwl, hU⟩ := hrel
    clear U1
    generalize wr = W at *
    have hfew := hok.out.few
    have hseen := hok.out.seen
    have hsent := hid hok.out.sent
    have hq1 := hok.out.right.few
    by_cases hlt : k < l.length
    · have hlt' : (k : Int) < l.length := by omega
      obtain ⟨b, off, rfl, hbl, e1, e2, e3⟩ := ac_cells (hl.below hU.bel) hlt
      have hU1 := hU.on (below_alloc W (aob (l.getD k zeroA)))
      have hA : (W.alloc (aob (l.getD k zeroA))).heap[W.heap.size]? = some (aob (l.getD k zeroA)) := heap_alloc_at _ _ _ rfl
      generalize l.getD k zeroA = x at *
      obtain ⟨xk, xat, xs⟩ := x
      dsimp only at e1 e2 e3
      have hyA : ∀ kk, u5.ownBlock = some kk → kk < W.heap.size := fun kk h => (hU.four.r3.block_lt kk h).2
      go_upto_region 11 with fail
      unfold aob at hU1 hA
      dsimp only at hU1 hA
      clear e1 e2 e3 hU
      generalize W.alloc (.cells #[.int .i64 xk, .int .i64 xat, .int .i64 xs] 55) = W2 at *
      generalize W.heap.size = A at *
      obtain ⟨A0, A1, A2⟩ := aob_cells (t := ⟨xk, xat, xs⟩) hA
      dsimp only at A0 A1 A2
      by_cases h0 : xk = 0
      · subst h0
        obtain ⟨C0, C1⟩ := so_cells hU1.sb
        have hwl' : (way.length : Int) ≤ 500 := by omega
        obtain ⟨t, ht⟩ : ∃ t, Hid (t = (⟨0, 1, 1, xs⟩ : Tr)) := ⟨_, rfl⟩
        clear A1
        go_wp2_with fail
        refine (put_any s a cap ⟨0, 1, 1, xs⟩ _ hU1.lies).mono ?_
        rw [← ht.out]
        have hs0 := wrongS_ok.2 hok.out.right
        by_cases hw : (wrongS (outS s t)).1 = 0
        · rw [putS_ok hs0 hw]
          have HS := hid (hok.out.put hw)
          have hlo : (outS s t).kept.length = s.kept.length + 1 := by simp [outS]
          have hlast : (outS s t).kept.getD ((outS s t).kept.length - 1) zeroT = nextT s t := by rw [hlo]; simp [outS, List.getD]
          have n0 : 0 < (outS s t).kept.length := by omega
          have n1 : (outS s t).kept.length ≤ 41 := by omega
          have HL := hid hlast
          clear hlast hlo hw hs0
          generalize nextT s t = y at *
          generalize outS s t = o at *
          rintro e w3 ⟨v3, rfl, hrow3, hb3⟩
          obtain ⟨a3, cap3, rfl, hr3, hl3⟩ := row_at' hrow3
          dsimp only at hr3 hl3 ⊢
          have hE : (w3.alloc (so o a3 cap3)).heap[w3.heap.size]? = some (so o a3 cap3) := heap_alloc_at _ _ _ rfl
          have hbE : Below W2.heap.size W2 (w3.alloc (so o a3 cap3)) := hb3.alloc hb3.size _
          have hrE := hr3.alloc (so o a3 cap3)
          have hU3 := hU1.on hbE
          have hU4 := hU1.kept hbE o a3 cap3 hrE
          have hC3 : C < w3.heap.size := Nat.lt_of_lt_of_le hU1.ltC hb3.size
          unfold so at hE hU3 hU4
          clear hb3 hrow3 hr3 hbE hrE hU1 C0 C1 hA A0 A2 hl3
          go_upto_region 15 with fail
          generalize w3.alloc (.cells #[.int .i64 o.sent, .slice a3 o.kept.length cap3] 40) = W3 at *
          generalize w3.heap.size = E at *
          obtain ⟨E0, E1⟩ := so_cells hE
          obtain ⟨C0, C1⟩ := so_cells hU3.sb
          obtain ⟨F0, F1⟩ := so_free hU3.sb
          have hE4 : ((W3.setCell ⟨C, 0, none⟩ (.int .i64 o.sent)).setCell ⟨C, 1, none⟩ (.slice a3 o.kept.length cap3)).heap[E]? = some (so o a3 cap3) := (heap_setCell_other _ _ _ _ (by simp; omega)).trans ((heap_setCell_other _ _ _ _ (by simp; omega)).trans hE)
          clear hU3 hE
          go_upto_region 16 with fail
          clear E0 E1 C0 C1 F0 F1
          generalize (W3.setCell ⟨C, 0, none⟩ (.int .i64 o.sent)).setCell ⟨C, 1, none⟩ (.slice a3 o.kept.length cap3) = W4 at *
          obtain ⟨E0, E1⟩ := so_cells hE4
          obtain ⟨b3, off3, rfl, hbl3, d1, d2, d3, d4⟩ := tr_cells hU4.lies (i := o.kept.length - 1) (by omega)
          rw [HL.out] at d1 d2 d3 d4
          obtain ⟨ap, capp, rfl, hrp, -⟩ := row_at' hU4.four.r2
          have n0' : (0 : Int) < o.kept.length := by omega
          have n1' : (o.kept.length : Int) ≤ 41 := by omega
          clear HL
          go_wp2_with (at_builtin; refine wpList_append elemT _ rfl _ _ rfl (C + 1) _ _ rfl (hrp.alloc _) (some ⟨W4.heap.size, 0, none⟩) 1 1 [y] rfl rfl (lies_one (heap_alloc_at _ _ _ rfl) rfl _) ?c3 ?c4 ?c5 ?_)
          case c3 => simp [maxLen]; omega
          case c4 => simp; omega
          case c5 => have := hU4.ltC; simp; omega
          intro v5 w5 hown5 hgrow5 hat5 _
          have hU5 := (hU4.on (below_alloc W4 _)).more_put hgrow5 hown5 (by simpa only [World.size_alloc] using hat5)
          clear hgrow5 hat5 hown5 hU4 E0 E1 d1 d2 d3 d4 hE4 hrp
          obtain ⟨ay, capy, rfl, -, -⟩ := row_at' hU5.four.r3
          go_wp2
          go_roundw
          case rel => exact ⟨k + 1, o, _, cap3, put ++ [y], way, got, seen, by omega, by go_num, rfl, HS, hwl, hU5⟩
          case measure => simp [intOf]; omega
        · rw [putS_out hs0 hw]
          have HS := hid hok.out.skip
          have hne : ((wrongS (outS s t)).1 == 0) = false := by simpa using hw
          clear hs0 hw ht
          generalize (wrongS (outS s t)).1 = r at *
          rintro e w3 ⟨v3, rfl, hrow3, hb3⟩
          obtain ⟨a3, cap3, rfl, -, -⟩ := row_at' hrow3
          dsimp only
          have hU3 := (hU1.on hb3).on (below_alloc w3 (so zeroS a3 cap3))
          unfold so at hU3
          clear hb3 hrow3 hU1 C0 C1 hA A0 A2
          obtain ⟨ay, capy, rfl, -, -⟩ := row_at' hU3.four.r3
          go_wp2
          go_roundw
          case rel => exact ⟨k + 1, s, a, cap, put, way, got, seen, by omega, by go_num, rfl, HS, hwl, hU3⟩
          case measure => simp [intOf]; omega
      by_cases h1 : xk = 1
      · subst h1
        obtain ⟨C0, C1⟩ := so_cells hU1.sb
        have HS := hid hok.out.send
        have hls := hU1.lies
        obtain ⟨ay, capy, rfl, hry, -⟩ := row_at' hU1.four.r3
        clear h0 A1 A2
        go_wp2_with (at_builtin; refine wpList_append elemT _ rfl _ _ rfl (C + 1) _ _ rfl hry a s.kept.length cap s.kept rfl rfl hls ?c3 ?c4 ?c5 ?_)
        case c3 => simp [maxLen]; omega
        case c4 => omega
        case c5 => exact hU1.ltC
        intro v3 w3 hown3 hgrow3 hat3 _
        have hU3 := hU1.more_way hgrow3 hown3 hat3
        obtain ⟨way', hway'⟩ : ∃ way', Hid (way' = way ++ s.kept) := ⟨_, rfl⟩
        rw [← hway'.out] at hU3 HS hown3
        obtain ⟨a3, cap3, rfl, -, -⟩ := row_at' hown3
        have hl3 : way'.length ≤ 600 := by rw [hway'.out, List.length_append]; omega
        have bb := hU3.bel
        clear hgrow3 hat3 hown3 hU1 C0 C1 hA A0 hry hls hway'
        by_cases hw5 : 500 < way'.length
        · have hw5' : (500 : Int) < way'.length := by omega
          go_wp2
          go_ret
          exact ⟨rfl, bb⟩
        · have hw5' : (way'.length : Int) ≤ 500 := by omega
          go_wp2
          go_roundw
          case rel => exact ⟨k + 1, s, a, cap, put, way', got, seen, by omega, by go_num, rfl, HS, by omega, hU3⟩
          case measure => simp [intOf]; omega
      by_cases h2 : xk = 2
      · subst h2
        have hgl : got.length ≤ 200 := by have := hok.out.same.1; omega
        have HK := hid hok.out.skip
        obtain ⟨ay, capy, rfl, hry, hly⟩ := row_at' hU1.four.r3
        have hwl' : (way.length : Int) ≤ 500 := by omega
        clear A2
        by_cases hn : xat < 0
        · go_wp2
          go_roundw
          case rel => exact ⟨k + 1, s, a, cap, put, way, got, seen, by omega, by go_num, rfl, HK, hwl, hU1⟩
          case measure => simp [intOf]; omega
        by_cases hn2 : (way.length : Int) ≤ xat
        · have hn' : 0 ≤ xat := by omega
          clear hn
          go_wp2
          go_roundw
          case rel => exact ⟨k + 1, s, a, cap, put, way, got, seen, by omega, by go_num, rfl, HK, hwl, hU1⟩
          case measure => simp [intOf]; omega
        clear HK
        obtain ⟨j, rfl⟩ : ∃ j : Nat, xat = j := ⟨xat.toNat, by omega⟩
        have hj : j < way.length := by omega
        have hj' : (j : Int) < way.length := by omega
        clear hn hn2
        obtain ⟨b3, off3, rfl, hbl3, d1, d2, d3, d4⟩ := tr_cells hly hj
        have htw := hid (getD_mem hj)
        generalize way.getD j zeroT = t at *
        have hU3 := hU1.on (below_alloc W2 (tob t))
        have hT : (W2.alloc (tob t)).heap[W2.heap.size]? = some (tob t) := heap_alloc_at _ _ _ rfl
        have hA3 := (Below.heap_alloc W2 (tob t) _ (lt_of_block hA)).trans hA
        have htp := hid (hok.out.way _ htw.out)
        have lA := lt_of_block hA
        unfold tob at hU3 hT hA3
        go_upto_region 23 with fail
        clear d1 d2 d3 d4 hU1 hA A0 A1 hry hly
        generalize W2.alloc (.cells #[.int .i64 t.n, .int .i64 t.k, .int .i64 t.a, .int .i64 t.s] 42) = W3 at *
        generalize W2.heap.size = F at *
        obtain ⟨A0, A1, -⟩ := aob_cells (t := ⟨2, (j : Int), xs⟩) hA3
        dsimp only at A0 A1
        obtain ⟨way', hway'⟩ : ∃ way', Hid (way = way') := ⟨_, rfl⟩
        rw [hway'.out] at hU3 hwl' hok ⊢
        have hwl3 : way'.length ≤ 500 := by rw [← hway'.out]; exact hwl
        have hokw := hok
        clear hwl' A1 hj hj' hok hway'
        obtain ⟨T0, T1, T2, T3⟩ := tob_cells hT
        have hwl3' : (way'.length : Int) ≤ 500 := by omega
        go_wp2_with fail
        refine (take_any seen t _).mono ?_
        cases htk : taken seen t.n with
        | true =>
          rw [took_true htk]
          have HS := hid (hokw.out.take htp.out (taken_true.1 htk).2.2)
          rintro e w4 ⟨rfl, hb4⟩
          have hU4 := hU3.on hb4
          have hT4 := (hb4.block _ (lt_of_block hT)).trans hT
          clear T0 T1 T2 T3 hU3 hT hb4 hA3 A0 htk
          obtain ⟨T0, T1, T2, T3⟩ := tob_cells hT4
          obtain ⟨ag, capg, rfl, hrg, -⟩ := row_at' hU4.four.r4
          go_wp2_with (at_builtin; refine wpList_append elemT _ rfl _ _ rfl (C + 1) _ _ rfl (hrg.alloc _) (some ⟨w4.heap.size, 0, none⟩) 1 1 [t] rfl rfl (lies_one (heap_alloc_at _ _ _ rfl) rfl _) ?c3 ?c4 ?c5 ?_)
          case c3 => simp [maxLen]; omega
          case c4 => simp; omega
          case c5 => have := hU4.ltC; simp; omega
          intro v5 w5 hown5 hgrow5 hat5 _
          have hU5 := (hU4.on (below_alloc w4 _)).more_got hgrow5 hown5 (by simpa only [World.size_alloc] using hat5)
          clear hgrow5 hat5 hown5 hU4 T0 T1 T2 T3 hT4 hrg
          go_wp2
          go_roundw
          case rel => exact ⟨k + 1, s, a, cap, put, way', got ++ [t], seen + 1, by omega, by go_num, by go_num, HS, hwl3, hU5⟩
          case measure => simp [intOf]; omega
        | false =>
          rw [took_false htk]
          have HS := hid hokw.out.skip
          rintro e w4 ⟨rfl, hb4⟩
          have hU4 := hU3.on hb4
          clear T0 T1 T2 T3 hU3 hT hb4 hA3 A0 htk
          go_wp2
          go_roundw
          case rel => exact ⟨k + 1, s, a, cap, put, way', got, seen, by omega, by go_num, rfl, HS, hwl3, hU4⟩
          case measure => simp [intOf]; omega
      by_cases h3 : xk = 3
      · subst h3
        have hgl : got.length ≤ 200 := by have := hok.out.same.1; omega
        have HK := hid hok.out.skip
        obtain ⟨ay, capy, rfl, hry, hly⟩ := row_at' hU1.four.r3
        have hwl' : (way.length : Int) ≤ 500 := by omega
        clear A2
        by_cases hn : xat < 0
        · go_wp2
          go_roundw
          case rel => exact ⟨k + 1, s, a, cap, put, way, got, seen, by omega, by go_num, rfl, HK, hwl, hU1⟩
          case measure => simp [intOf]; omega
        by_cases hn2 : (way.length : Int) ≤ xat
        · have hn' : 0 ≤ xat := by omega
          clear hn
          go_wp2
          go_roundw
          case rel => exact ⟨k + 1, s, a, cap, put, way, got, seen, by omega, by go_num, rfl, HK, hwl, hU1⟩
          case measure => simp [intOf]; omega
        clear HK
        obtain ⟨j, rfl⟩ : ∃ j : Nat, xat = j := ⟨xat.toNat, by omega⟩
        have hj : j < way.length := by omega
        have hj' : (j : Int) < way.length := by omega
        have hcy : way.length ≤ capy := by
          obtain ⟨_, cg0, hv0, hc0, -⟩ := Row.parts hU1.four.r3 hj
          obtain ⟨-, -, rfl⟩ := Value.slice.inj hv0
          exact hc0
        have i1 : (0 : Int) ≤ (j : Int) := by omega
        have i2 : (j : Int) ≤ (capy : Int) := by omega
        have i3 : (j : Int) + 1 ≤ (way.length : Int) := by omega
        have i4 : IntKind.i64.wrap ((j : Int) + 1) = (j : Int) + 1 := by unfold IntKind.wrap IntKind.bits IntKind.signed; simp; omega
        have i5 : (0 : Int) ≤ (j : Int) + 1 := by omega
        have i6 : (way.length : Int) ≤ (capy : Int) := by omega
        have i7 : j ≤ capy := by omega
        have i8 : j + 1 ≤ way.length := by omega
        clear hn hn2
        obtain ⟨b3, off3, rfl, hbl3, d1, d2, d3, d4⟩ := tr_cells hly hj
        have htw := hid (getD_mem hj)
        generalize way.getD j zeroT = t at *
        have hU3 := hU1.on (below_alloc W2 (tob t))
        have hT : (W2.alloc (tob t)).heap[W2.heap.size]? = some (tob t) := heap_alloc_at _ _ _ rfl
        have hA3 := (Below.heap_alloc W2 (tob t) _ (lt_of_block hA)).trans hA
        have htp := hid (hok.out.way _ htw.out)
        have lA := lt_of_block hA
        unfold tob at hU3 hT hA3
        go_upto_region 23 with fail
        clear d1 d2 d3 d4 hU1 hA A0 A1 hry hly
        generalize W2.alloc (.cells #[.int .i64 t.n, .int .i64 t.k, .int .i64 t.a, .int .i64 t.s] 42) = W3 at *
        generalize W2.heap.size = F at *
        obtain ⟨A0, A1, -⟩ := aob_cells (t := ⟨3, (j : Int), xs⟩) hA3
        dsimp only at A0 A1
        obtain ⟨way', hway'⟩ : ∃ way', Hid (way' = way.take j ++ way.drop (j + 1)) := ⟨_, rfl⟩
        obtain ⟨g, cg, hv, hc1, hc2, hrt, hdr⟩ := Row.parts hU3.four.r3 hj
        obtain ⟨hv1, -, rfl⟩ := Value.slice.inj hv
        cases hv1
        go_upto_region 24 with fail
        have hwk := hid (hok.out.lose (way' := way') (by rw [hway'.out]; exact fun u hu => but_one hu))
        have hwl3 : way'.length ≤ 500 := by rw [hway'.out, List.length_append]; simp; omega
        go_cut [5] from 82 to 94 (fun y wc => ∃ ay' capy', y = .slice ay' way'.length capy' ∧ Un w C s a cap u4 put (.slice ay' way'.length capy') way' u6 got wc ∧ wc.heap[F]? = some (tob t) ∧ wc.heap[A]? = some (aob ⟨3, (j : Int), xs⟩))
        case first =>
          rename_i J0 K0 hJ0 hK0
          have hlC : C + 1 ≤ W3.heap.size := hU3.ltC
          have hbA : b3 < A := hyA b3 rfl
          have hAb : some A ≠ Value.ownBlock (.slice (some ⟨b3, 0, none⟩) j j) := by simp [Value.ownBlock]; omega
          have hdr' : ∀ c, Lies kT W3 (if capy = j + 1 then some ⟨b3, 0, none⟩ else some ⟨b3, (j + 1) * 4, none⟩) c (way.drop (j + 1)) := fun c => by
            split
            · exact lies_any (hdr 0 (fun h => by omega)) c
            · exact lies_any (hdr _ (fun _ => rfl)) c
          go_region_held3 (fun X => X.cell? ⟨A, 1, none⟩ = some (.int .i64 (j : Int))) (first | exact A1 | exact hgrow5.cell A1 hAb)
            ((refine step_append elemT _ rfl (.tmp 87) (.tmp 92) rfl (C + 1) (.slice (some ⟨b3, 0, none⟩) j j) (way.take j) rfl hrt.drew (if capy = j + 1 then some ⟨b3, 0, none⟩ else some ⟨b3, (j + 1) * 4, none⟩) (way.length - (j + 1)) (capy - (j + 1)) (way.drop (j + 1)) rfl (by simp) (hdr' _).drew (by simp [maxLen]; omega) (by simp; omega) hlC ?_
              intro v5 w5 hown5 hgrow5 hat5 _
              rw [← hway'.out] at hown5
              have hg5 : W3.grownBy w5 (some b3) := ⟨hgrow5.os, hgrow5.tape, hgrow5.output, hgrow5.size, hgrow5.block⟩
              have hU5 := hU3.more_way hg5 hown5 hat5
              obtain ⟨a5, cap5, rfl, -, -⟩ := row_at' hown5))
          all_goals
            refine hK0 _ _ (Met.intro (hJ0 _ _ ?_))
            (repeat apply Exists.intro)
            refine ⟨?rel, rfl⟩
            exact ⟨a5, cap5, rfl, hU5, (hg5.block F (lt_of_block hT) (by simp; omega)).trans hT, (hg5.block A (lt_of_block hA3) (by simp; omega)).trans hA3⟩
        case rest =>
          obtain ⟨ay', capy', rfl, hU4, hT4, hA4⟩ := hcut
          clear hU3 hT hA3 A0 A1 hrt hdr hc1 hc2 hwl' hj hj' hok hway' hyA
          generalize wc = W4 at *
          have hU3 := hU4
          have hT := hT4
          have hA3 := hA4
          clear hU4 hT4 hA4
          obtain ⟨A0, A1, -⟩ := aob_cells hA3
          have hokw := hwk
          obtain ⟨T0, T1, T2, T3⟩ := tob_cells hT
          have hwl3' : (way'.length : Int) ≤ 500 := by omega
          go_wp2_with fail
          refine (take_any seen t _).mono ?_
          cases htk : taken seen t.n with
          | true =>
            rw [took_true htk]
            have HS := hid (hokw.out.take htp.out (taken_true.1 htk).2.2)
            rintro e w4 ⟨rfl, hb4⟩
            have hU4 := hU3.on hb4
            have hT4 := (hb4.block _ (lt_of_block hT)).trans hT
            clear T0 T1 T2 T3 hU3 hT hb4 hA3 A0 htk
            obtain ⟨T0, T1, T2, T3⟩ := tob_cells hT4
            obtain ⟨ag, capg, rfl, hrg, -⟩ := row_at' hU4.four.r4
            go_wp2_with (at_builtin; refine wpList_append elemT _ rfl _ _ rfl (C + 1) _ _ rfl (hrg.alloc _) (some ⟨w4.heap.size, 0, none⟩) 1 1 [t] rfl rfl (lies_one (heap_alloc_at _ _ _ rfl) rfl _) ?c3 ?c4 ?c5 ?_)
            case c3 => simp [maxLen]; omega
            case c4 => simp; omega
            case c5 => have := hU4.ltC; simp; omega
            intro v5 w5 hown5 hgrow5 hat5 _
            have hU5 := (hU4.on (below_alloc w4 _)).more_got hgrow5 hown5 (by simpa only [World.size_alloc] using hat5)
            clear hgrow5 hat5 hown5 hU4 T0 T1 T2 T3 hT4 hrg
            go_wp2
            go_roundw
            case rel => exact ⟨k + 1, s, a, cap, put, way', got ++ [t], seen + 1, by omega, by go_num, by go_num, HS, hwl3, hU5⟩
            case measure => simp [intOf]; omega
          | false =>
            rw [took_false htk]
            have HS := hid hokw.out.skip
            rintro e w4 ⟨rfl, hb4⟩
            have hU4 := hU3.on hb4
            clear T0 T1 T2 T3 hU3 hT hb4 hA3 A0 htk
            go_wp2
            go_roundw
            case rel => exact ⟨k + 1, s, a, cap, put, way', got, seen, by omega, by go_num, rfl, HS, hwl3, hU4⟩
            case measure => simp [intOf]; omega
      by_cases h4 : xk = 4
      · subst h4
        obtain ⟨C0, C1⟩ := so_cells hU1.sb
        have HB1 := hid hok.out.back.1
        have HB2 := hid hok.out.back.2
        have hwl' : (way.length : Int) ≤ 500 := by omega
        clear h0 h1 h2 h3 A1 A2
        go_wp2_with fail
        refine (back_any s a cap seen _ hU1.lies).mono ?_
        rw [HB1.out]
        obtain ⟨o, ho⟩ : ∃ o, Hid (o = (⟨s.sent, those seen s.kept⟩ : Se)) := ⟨_, rfl⟩
        rw [← ho.out] at HB2 ⊢
        rintro e w3 ⟨v3, rfl, hrow3, hb3⟩
        obtain ⟨a3, cap3, rfl, hr3, -⟩ := row_at' hrow3
        dsimp only at hr3 ⊢
        have hE : (w3.alloc (so o a3 cap3)).heap[w3.heap.size]? = some (so o a3 cap3) := heap_alloc_at _ _ _ rfl
        have hbE : Below W2.heap.size W2 (w3.alloc (so o a3 cap3)) := hb3.alloc hb3.size _
        have hrE := hr3.alloc (so o a3 cap3)
        have hU3 := hU1.on hbE
        have hU4 := hU1.kept hbE o a3 cap3 hrE
        have hC3 : C < w3.heap.size := Nat.lt_of_lt_of_le hU1.ltC hb3.size
        unfold so at hE hU3 hU4
        clear hb3 hrow3 hr3 hbE hrE hU1 C0 C1 hA A0
        go_upto_region 31 with fail
        generalize w3.alloc (.cells #[.int .i64 o.sent, .slice a3 o.kept.length cap3] 40) = W3 at *
        generalize w3.heap.size = E at *
        obtain ⟨E0, E1⟩ := so_cells hE
        obtain ⟨C0, C1⟩ := so_cells hU3.sb
        obtain ⟨F0, F1⟩ := so_free hU3.sb
        obtain ⟨ay, capy, rfl, -, -⟩ := row_at' hU3.four.r3
        clear hU3 hE
        go_wp2
        go_roundw
        case rel => exact ⟨k + 1, o, a3, cap3, put, way, got, seen, by omega, by go_num, rfl, HB2, hwl, hU4⟩
        case measure => simp [intOf]; omega
      have g0 : (xk == 0) = false := by simpa using h0
      have g1 : (xk == 1) = false := by simpa using h1
      have g2 : (xk == 2) = false := by simpa using h2
      have g3 : (xk == 3) = false := by simpa using h3
      have g4 : (xk == 4) = false := by simpa using h4
      clear h0 h1 h2 h3 h4
      obtain ⟨ay, capy, rfl, -, -⟩ := row_at' hU1.four.r3
      have hwl' : (way.length : Int) ≤ 500 := by omega
      have HS := hid hok.out.skip
      go_wp2
      go_roundw
      case rel => exact ⟨k + 1, s, a, cap, put, way, got, seen, by omega, by go_num, rfl, HS, hwl, hU1⟩
      case measure => simp [intOf]; omega
    · obtain ⟨f1, f2, f3, f4⟩ := hok.out.same
      have HF := hid f4
      obtain ⟨ap, capp, rfl, -, hlp⟩ := row_at' hU.four.r2
      obtain ⟨ag, capg, rfl, -, hlg⟩ := row_at' hU.four.r4
      have hfd := fieldFault'
      obtain ⟨C0, C1⟩ := so_cells hU.sb
      have f1' : ((got.length : Int) != seen) = false := by simp; omega
      have f2' : (got.length : Int) ≤ put.length := by omega
      have f3' := hid f3
      have hls := hU.lies
      clear f4 f1 f3 hok
      go_wp2_with fail
      refine (wrong_any s a cap _ hls).mono ?_
      rw [f3'.out]
      generalize (wrongS s).2 = r2
      rintro e w3 ⟨rfl, hb3⟩
      have hlp3 := hlp.below hb3
      have hlg3 := hlg.below hb3
      have bb3 := hU.bel.trans (hb3.mono hU.bel.size)
      clear hb3 hlp hlg hU hls C0 C1
      go_wp2
      go_loopw [140] (fun i wr => ∃ j : Nat, j ≤ got.length ∧ i = .int .i64 j ∧ Below w3.heap.size w3 wr) (fun i _ => got.length - (intOf i).toNat)
      case atStart => exact ⟨0, Nat.zero_le _, rfl, Below.refl _ _⟩
      case round =>
        obtain ⟨j, hj, rfl, hb⟩ := hrel
        generalize wr = X at *
        by_cases hlt2 : j < got.length
        · have hlt2' : (j : Int) < got.length := by omega
          have hlt3' : (j : Int) < put.length := by omega
          have hlt3 : j < put.length := by omega
          obtain ⟨b1, off1, rfl, hbl1, e1, e2, e3, e4⟩ := tr_cells (hlg3.below hb) hlt2
          obtain ⟨b2, off2, rfl, hbl2, d1, d2, d3, d4⟩ := tr_cells (hlp3.below hb) (i := j) (by omega)
          rw [← HF.out j hlt2] at d1 d2 d3 d4
          generalize got.getD j zeroT = t at *
          go_wp2
          go_quiet (fail)
          go_wp2
          go_roundw
          case rel => exact ⟨j + 1, by omega, by go_num, below_drewN hb _⟩
          case measure => simp [intOf]; omega
        · go_wp2
          go_ret
          exact ⟨rfl, bb3.trans (hb.mono bb3.size)⟩
end Go.Proofs.Ytffgglkobngddab.Po
