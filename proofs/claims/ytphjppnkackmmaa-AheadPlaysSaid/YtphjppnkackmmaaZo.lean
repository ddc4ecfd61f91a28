/- Whatever is put, done, loaded: the program's table answers as the document's. -/
import Derived.Test.YtphjppnkackmmaaZk
import Derived.Test.YtphjppnkackmmaaZj
set_option linter.unusedSimpArgs false
set_option linter.unusedVariables false
namespace Go.Proofs.Ytphjppnkackmmaa
open Go Go.RowKit SumMath WordMath
/-- Both tables. -/
structure Pl (w u : World) (g b g2 : Nat) (A : Option Addr) (T1 T2 : List Re) : Prop where
  ah : Ah u g b T1
  rx : Rx w u g2 A T2
  on : Below w.heap.size w u
section
variable {w u u' : World} {g b g2 gx : Nat} {A B : Option Addr} {T1 T2 U L : List Re} {n c : Nat}
theorem Rx.owned (h : Rx w u g A T1) : ∃ c, OwnR u 38 2 A T1.length c (ev T1) ∧ ∀ ad, A = some ad → w.heap.size ≤ ad.block := by
  obtain ⟨c, _, hr⟩ := h
  exact ⟨c, hr.1, hr.2⟩
theorem Rx.block (h : Rx w u g A T1) : ∃ cs, u.heap[g]? = some (.cells cs 30 (0, 0)) := by
  obtain ⟨c, hg, _⟩ := h
  exact ⟨_, hg⟩
/-- A block of another type is none of the document's table. -/
theorem Rx.not_rf (h : Rx w u g A T1) {i : Nat} {cs : Array Value} {t : TypeId} (hi : u.heap[i]? = some (.cells cs t (0, 0))) (h1 : t ≠ 30) (h2 : t ≠ 38) : ¬ RF g A i := by
  rintro (rfl | ⟨ad, e, rfl⟩)
  · obtain ⟨cs', hg⟩ := h.block
    exact cells_type hi hg h1 rfl
  · obtain ⟨c, ho, _⟩ := h.owned
    exact ho.apart hi (Ne.symm h2) ad e rfl
theorem Rx.not_rf_map (h : Rx w u g A T1) {i : Nat} (m : MH u i U) : ¬ RF g A i := by
  rintro (rfl | ⟨ad, e, rfl⟩)
  · obtain ⟨cs', hg⟩ := h.block
    exact m.ne_cells hg rfl
  · obtain ⟨c, ho, _⟩ := h.owned
    obtain ⟨_, _, _, h4⟩ := ho
    rcases h4 with ⟨h4, _⟩ | ⟨g', cur, h4, hgg, _⟩
    · rw [h4] at e; cases e
    · rw [h4] at e
      injection e with e
      subst e
      exact m.ne_cells hgg rfl
theorem Pl.below (h : Pl w u g b g2 A T1 T2) (hb : Below u.heap.size u u') : Pl w u' g b g2 A T1 T2 := ⟨h.ah.below hb, h.rx.below hb, h.on.trans (hb.mono h.on.size)⟩
theorem Pl.turnA (h : Pl w u g b g2 A T1 T2) (hg : u.grownBy u' (some b)) (hA : Ah u' g b U) (hb : w.heap.size ≤ b) : Pl w u' g b g2 A U T2 :=
  ⟨hA, h.rx.turned h.ah.map hg, h.on.grown hg h.on.size (fun j e => by injection e with e; omega)⟩
theorem Pl.turnB (h : Pl w u g b g2 A T1 T2) (hr : RxT w u g2 A U u') (h2 : w.heap.size ≤ g2) : ∃ A', Pl w u' g b g2 A' T1 U ∧ Only (RF g2 A) u u' ∧ (A' = A ∨ ∀ ad, A' = some ad → u.heap.size ≤ ad.block) := by
  obtain ⟨A', k1, k2, k3⟩ := hr
  refine ⟨A', ⟨h.ah.keep (k2.block _ h.ah.ltg (h.rx.not_rf h.ah.at' (by decide) (by decide))) (k2.block _ h.ah.ltb (h.rx.not_rf_map h.ah.map)), k1, h.on.trans (k2.below h.on.size fun i hi => ?_)⟩, k2, k3⟩
  rcases hi with rfl | ⟨ad, e, rfl⟩
  · exact h2
  · obtain ⟨_, _, ho⟩ := h.rx.owned
    exact ho ad e
/-- With a step's block, and a row of one's own. -/
structure Pw (w u : World) (g b g2 gx : Nat) (X : Array Value) (A B : Option Addr) (n c : Nat) (L T1 T2 : List Re) : Prop where
  pl : Pl w u g b g2 A T1 T2
  xb : u.heap[gx]? = some (.cells X 33 (0, 0))
  own : OwnR u 38 2 B n c (ev L)
  hi : ∀ ad, B = some ad → w.heap.size ≤ ad.block
  ap : ∀ ad a, B = some ad → A = some a → ad.block ≠ a.block
variable {X : Array Value}
theorem Pw.below (h : Pw w u g b g2 gx X A B n c L T1 T2) (hb : Below u.heap.size u u') : Pw w u' g b g2 gx X A B n c L T1 T2 :=
  ⟨h.pl.below hb, (hb.block _ (lt_of_cells h.xb)).trans h.xb, h.own.keep fun ad e => hb.block _ (h.own.lt ad e), h.hi, h.ap⟩
theorem Pw.turnA (h : Pw w u g b g2 gx X A B n c L T1 T2) (hg : u.grownBy u' (some b)) (hA : Ah u' g b U) (hb : w.heap.size ≤ b) : Pw w u' g b g2 gx X A B n c L U T2 :=
  ⟨h.pl.turnA hg hA hb, (hg.block _ (lt_of_cells h.xb) (fun e => h.pl.ah.map.ne_cells h.xb (by injection e))).trans h.xb, h.own.turned h.pl.ah.map hg, h.hi, h.ap⟩
theorem Pw.turnB (h : Pw w u g b g2 gx X A B n c L T1 T2) (hr : RxT w u g2 A U u') (h2 : w.heap.size ≤ g2) : ∃ A', Pw w u' g b g2 gx X A' B n c L T1 U := by
  obtain ⟨A', k1, k2, k3⟩ := h.pl.turnB hr h2
  have hbo : ∀ ad, B = some ad → u'.heap[ad.block]? = u.heap[ad.block]? := fun ad e => k2.block _ (h.own.lt ad e) (by
    rintro (hf | ⟨a, ea, hf⟩)
    · obtain ⟨cs, hg2⟩ := h.pl.rx.block
      exact h.own.apart hg2 (by decide) ad e hf
    · exact h.ap ad a e ea hf)
  refine ⟨A', k1, (k2.block _ (lt_of_cells h.xb) (h.pl.rx.not_rf h.xb (by decide) (by decide))).trans h.xb, h.own.keep hbo, h.hi, fun ad a e ea => ?_⟩
  rcases k3 with rfl | k3
  · exact h.ap ad a e ea
  · have h3 := k3 a ea
    have h4 := h.own.lt ad e
    omega
theorem Pw.cell (h : Pw w u g b g2 gx X A B n c L T1 T2) (k : Nat) : u.cell? ⟨gx, k, none⟩ = X[k]? := cell_of_row u gx k _ _ _ h.xb
theorem Pw.row (h : Pw w u g b g2 gx X A B n c L T1 T2) : ∃ c2, u.cell? ⟨g2, 0, none⟩ = some (.slice A T2.length c2) ∧ Cel u A (ev T2) := by
  obtain ⟨c2, hg, hr⟩ := h.pl.rx
  exact ⟨c2, by rw [cell_of_row u g2 0 _ _ _ hg]; rfl, hr.cel⟩
theorem Pl.row (h : Pl w u g b g2 A T1 T2) : ∃ c2, u.cell? ⟨g2, 0, none⟩ = some (.slice A T2.length c2) ∧ Cel u A (ev T2) := by
  obtain ⟨c2, hg, hr⟩ := h.rx
  exact ⟨c2, by rw [cell_of_row u g2 0 _ _ _ hg]; rfl, hr.cel⟩
/-- A word of the row of one's own is another. -/
theorem Pw.word {bB k : Nat} {p : Int} (h : Pw w u g b g2 gx X A (some ⟨bB, 0, none⟩) n c L T1 T2) (x : Nat) (hk : k < L.length) (hp : (L.getD k re0).pos = p) :
    Pw w (u.setCell ⟨bB, k * 2 + 1, none⟩ (.int .u64 (x : Int))) g b g2 gx X A (some ⟨bB, 0, none⟩) n c (L.set k ⟨p, x⟩) T1 T2 := by
  obtain ⟨_, _, _, h4⟩ := h.own
  rcases h4 with ⟨h4, _⟩ | ⟨gg, cur, h4, hgg, _⟩
  · cases h4
  · injection h4 with h4
    injection h4 with h4
    subst h4
    have n1 := cells_type h.pl.ah.at' hgg (by decide)
    have n2 := h.pl.ah.map.ne_cells hgg
    have n3 := cells_type h.xb hgg (by decide)
    refine ⟨⟨h.pl.ah.keep (Below.heap_setCell _ _ _ _ n1) (Below.heap_setCell _ _ _ _ (Ne.symm n2)), h.pl.rx.keep fun i hi => Below.heap_setCell _ _ _ _ ?_, h.pl.on.setCell (p := ⟨bB, k * 2 + 1, none⟩) (h.hi ⟨bB, 0, none⟩ rfl) _⟩, (Below.heap_setCell _ _ _ _ n3).trans h.xb, ?_, h.hi, h.ap⟩
    · rcases hi with rfl | ⟨a, ea, rfl⟩
      · obtain ⟨cs, hg2⟩ := h.pl.rx.block
        exact cells_type hg2 hgg (by decide)
      · exact fun e => h.ap _ a rfl ea e.symm
    · have := h.own.put (v := .int .u64 (x : Int)) (k * 2 + 1)
      rwa [ev_set x hk hp] at this
end
theorem putR_len {T L : List Re} (h : Rise T) : (putR T L).length ≤ T.length + L.length := by
  unfold putR
  split
  · omega
  · exact puts_len h
theorem putR_rise {T L : List Re} (h : Rise T) : Rise (putR T L) := by
  unfold putR
  split
  · exact h
  · exact h.puts
set_option maxRecDepth 100000 in
set_option maxHeartbeats 4000000 in
theorem plays_law (w : World) (A0 : Option Addr) (l : List St) (c : Nat) (hr : SRow w A0 l) (hok : ∀ k, k < l.length → StOK w (l.getD k s0)) (hlen : l.length ≤ 9223372036854775807) :
    Calls Try.prog 3 #[.slice A0 l.length c] w fun e w' => e = .returned (.bool true) ∧ Below w.heap.size w w' := by
  have HH := Lib.hid (heavy_calls w A0 l c hr hok hlen)
  have HR := Lib.hid hr
  have HO := Lib.hid hok
  obtain ⟨N, hN⟩ : ∃ N, l.length = N := ⟨_, rfl⟩
  have HL := Lib.hid hN
  rw [hN] at hlen HH ⊢
  clear hr hok hN
  go_enter Try.func3, Try.ntmps3
  go_wp2_with (fail)
  refine HH.out.mono ?_
  rintro e w' ⟨hv, rfl, rfl, hlt⟩
  cases hv with
  | true =>
    go_wp2_with (fail)
    refine (alive_calls _).mono ?_
    rintro e w' ⟨rfl, hb⟩
    replace hb := Lib.hid hb
    go_wp2_with (fail)
    go_ret
    exact ⟨rfl, hb.out⟩
  | false =>
    have HLT := Lib.hid (hlt rfl)
    have hN150 : N ≤ 150 := by have := (hlt rfl).1; have := HL.out; omega
    clear hlt HH
    go_wp2_with (fail)
    refine (new_calls _).mono ?_
    rintro e w1 ⟨g, b, rfl, hg, hb, hA1, hB1⟩
    have hsz1 := hB1.size
    go_wp2_with (fail)
    obtain ⟨V, hV⟩ : ∃ V, V = w1.alloc (.cells #[.slice none 0 0] 30) := ⟨_, rfl⟩
    have hST : Pl w V g b w1.heap.size none [] [] := by
      refine ⟨?_, ⟨0, ?_, MineR.nil _ _⟩, ?_⟩
      · rw [hV]; exact hA1.below ((Below.refl _ _).alloc (Nat.le_refl _) _)
      · rw [hV]; exact heap_alloc_new _ _
      · rw [hV]; exact hB1.alloc hB1.size _
    have HST := Lib.hid hST
    rw [← hV]
    generalize w1.heap.size = g2 at *
    clear hV hST hA1 hB1
    go_loopw [5] (fun i wr => ∃ (k : Nat) (T : List Re) (A : Option Addr), i = .int .i64 k ∧ k ≤ N ∧ T.length ≤ 2000 * k ∧ Hid (Pl w wr g b g2 A T T)) (fun i _ => N - (intOf i).toNat)
    case atStart => exact ⟨0, [], none, rfl, Nat.zero_le _, Nat.zero_le _, HST⟩
    case round =>
      obtain ⟨k, T, A, rfl, hk, hTk, hS⟩ := hrel
      by_cases h1 : k < N
      · have hrr := HR.out.below hS.out.on
        obtain ⟨b1, o1, rfl, hlb, hc⟩ := hrr (by rw [HL.out]; omega)
        obtain ⟨x0, x1, x2, x3⟩ := hc k (by rw [HL.out]; exact h1)
        have hst := HO.out k (by rw [HL.out]; exact h1)
        have hl2 := HLT.out.2 k (by rw [HL.out]; exact h1)
        clear hc hrr
        generalize l.getD k s0 = s at *
        obtain ⟨act, ka, L, kc, pos, word⟩ := s
        simp only at x0 x1 x2 x3 hl2
        have HSTO := Lib.hid hst
        obtain ⟨M, hLM⟩ : ∃ M, L.length = M := ⟨_, rfl⟩
        have HLM := Lib.hid hLM
        rw [hLM] at x1 hl2
        have hrise := Lib.hid hS.out.ah.rise
        obtain ⟨X, hX⟩ : ∃ X : Array Value, X = #[.int .i64 act, .slice ka M kc, .int .i64 pos, .int .u64 (word : Int)] := ⟨_, rfl⟩
        have hbx : Below wr.heap.size wr (wr.alloc (.cells X 33)) := (Below.refl _ _).alloc (Nat.le_refl _) _
        obtain ⟨V2, hV2⟩ : ∃ V2, V2 = wr.alloc (.cells X 33) := ⟨_, rfl⟩
        have HS2 := Lib.hid (show Pl w V2 g b g2 A T T by rw [hV2]; exact hS.out.below hbx)
        have HX2 := Lib.hid (show V2.heap[wr.heap.size]? = some (.cells X 33 (0, 0)) by rw [hV2]; exact heap_alloc_new _ _)
        have HXX := Lib.hid hX
        have hV2b := hV2
        rw [hX] at hV2b
        clear hbx hst hLM hV2 hX
        by_cases ha : act = 0
        · subst ha
          go_upto_region 15 with (fail)
          rw [← hV2b]
          clear hV2b x0 x1 x2 x3 hS
          generalize wr.heap.size = gx at *
          have y1 : V2.cell? ⟨gx, 1, none⟩ = some (.slice ka M kc) := by rw [cell_of_row V2 gx 1 _ _ _ HX2.out, HXX.out]; rfl
          have hka : Cel V2 ka (ev L) := HSTO.out.cel.below HS2.out.on
          go_wp2_with (first | (at_builtin; refine wpList_rcl rfl (.const (.slice none 0 0)) (.tmp 45) rfl ka L M kc HLM.out rfl rfl hka (by rw [HLM.out]; omega) ?_; intro B cB w3 hO3 hb3; replace hO3 := Lib.hid hO3; replace hb3 := Lib.hid hb3; clear y1) | fail)
          have PW0 : Pw w w3 g b g2 gx X A B M cB L T T := by
            refine ⟨HS2.out.below hb3.out, (hb3.out.block _ (lt_of_cells HX2.out)).trans HX2.out, hO3.out.1, fun ad e => Nat.le_trans HS2.out.on.size (hO3.out.2 ad e), fun ad a e ea => ?_⟩
            have h3 := HS2.out.rx.lta a ea
            have h4 := hO3.out.2 ad e
            omega
          have PWS := Lib.hid PW0
          obtain ⟨pe, hpe⟩ : ∃ pe, putE L = pe := ⟨_, rfl⟩
          obtain ⟨T2, hT2⟩ : ∃ T2, putR T L = T2 := ⟨_, rfl⟩
          have hl9 : T2.length ≤ 2000 * (k + 1) := by
            have := putR_len (T := T) (L := L) hrise.out
            rw [hT2, HLM.out] at this
            omega
          have HPUT : Hid (∀ u, Pw w u g b g2 gx X A B M cB L T T → Calls Try.prog 10 #[.pointer (some ⟨g, 0, none⟩), .slice B M cB] u fun e w' => e = .returned (.int .i64 pe) ∧ Ah w' g b T2 ∧ u.grownBy w' (some b)) := Lib.hid (fun u h => by
            have := put_calls h.pl.ah B L cB h.own.cel HSTO.out.rn (by rw [HLM.out]; omega)
            rw [HLM.out, hpe, hT2] at this
            exact this)
          have HRPUT : Hid (∀ u, Pw w u g b g2 gx X A B M cB L T2 T → Calls Try.prog 11 #[.pointer (some ⟨g2, 0, none⟩), .slice ka M kc] u (ErrPost w u g2 A T2 pe)) := Lib.hid (fun u h => by
            have := rPut_calls h.pl.rx ka L kc h.pl.on.size HSTO.out.cel h.pl.on hsz1 hrise.out (by rw [HLM.out]; omega)
            rw [HLM.out, hpe, hT2] at this
            exact this)
          have HSAM : Hid (∀ u, Cel u B (ev L) → Cel u ka (ev L) → Calls Try.prog 12 #[.slice B M cB, .slice ka M kc] u (Q (.bool true) u)) := Lib.hid (fun u h1 h2 => by
            have := rsame_calls B ka L L cB kc u h1 h2 (by rw [HLM.out]; omega) (by rw [HLM.out]; omega)
            rw [rowsB_self, HLM.out] at this
            exact this)
          clear PW0 hka HS2 HX2 hO3 hb3 hpe hT2
          refine wp_region_phase (T := (fun _ _ => True)) (Vals [.pointer (some ⟨g, 0, none⟩), .slice B M cB, .int .i64 pe, .pointer (some ⟨g2, 0, none⟩), .pointer (some ⟨gx, 1, none⟩), .slice ka M kc, .int .i64 pe, .bool false, .bool false, .slice B M cB, .pointer (some ⟨gx, 1, none⟩), .slice ka M kc, .bool true, .bool false, .bool false]) (PH2 2 6 (fun x => Pw w x g b g2 gx X A B M cB L T T) (fun x => Pw w x g b g2 gx X A B M cB L T2 T) (fun x => ∃ A9, Pw w x g b g2 gx X A9 B M cB L T2 T2)) (by kernel_rfl) (by kernel_rfl) (by kernel_rfl) (fun i v w w2 h _ => h) (PH2.start (PWS.out.below (Below.refl _ _).drew)) ?steps ?fin
          case steps =>
            refine ⟨?s0, ?s1, ?s2, ?s3, ?s4, ?s5, ?s6, ?s7, ?s8, ?s9, ?s10, ?s11, ?s12, ?s13, ?s14, trivial⟩
            case s0 =>
              intro Lb ac u hA hp hl hd
              have q0 := ev_of (show ac.eval (.tmp 3) = .pointer (some ⟨g, 0, none⟩) from hA.eval 3 rfl)
              refine ⟨rfl, StepOK.run (.pointer (some ⟨g, 0, none⟩)) ?_ ⟨Vals.mk rfl, hp.keep (i := 0) (by decide) (by decide) id id id⟩ trivial⟩
              unfold execOp
              simp [go_sem, q0]
            case s1 =>
              intro Lb ac u hA hp hl hd
              have q0 := ev_of (show ac.eval (.tmp 7) = .slice B M cB from hA.eval 7 rfl)
              refine ⟨rfl, StepOK.run (.slice B M cB) ?_ ⟨Vals.mk rfl, hp.keep (i := 1) (by decide) (by decide) id id id⟩ trivial⟩
              unfold execOp
              simp [go_sem, q0]
            case s2 =>
              intro Lb ac u hA hp hl hd
              have r0 := depP hd 0 47 rfl rfl
              have q0 := ev_of (show ac.eval (.tmp 47) = .pointer (some ⟨g, 0, none⟩) from r0)
              have r1 := depP hd 1 48 rfl rfl
              have q1 := ev_of (show ac.eval (.tmp 48) = .slice B M cB from r1)
              refine ⟨rfl, StepOK.call 10 #[.pointer (some ⟨g, 0, none⟩), .slice B M cB] ?_ ((HPUT.out u (hp.1 hl).2).mono ?_)⟩
              · unfold execOp
                simp [go_sem, q0, q1]
              · rintro e w2 ⟨rfl, hA2, hG2⟩
                exact ⟨_, rfl, ⟨Vals.mk rfl, hp.first (by decide) hl ((hp.1 hl).2.turnA hG2 hA2 hb)⟩, trivial⟩
            case s3 =>
              intro Lb ac u hA hp hl hd
              have q0 := ev_of (show ac.eval (.tmp 4) = .pointer (some ⟨g2, 0, none⟩) from hA.eval 4 rfl)
              refine ⟨rfl, StepOK.run (.pointer (some ⟨g2, 0, none⟩)) ?_ ⟨Vals.mk rfl, hp.keep (i := 3) (by decide) (by decide) id id id⟩ trivial⟩
              unfold execOp
              simp [go_sem, q0]
            case s4 =>
              intro Lb ac u hA hp hl hd
              have q0 := ev_of (show ac.eval (.tmp 6) = .pointer (some ⟨gx, 0, none⟩) from hA.eval 6 rfl)
              refine ⟨rfl, StepOK.run (.pointer (some ⟨gx, 1, none⟩)) ?_ ⟨Vals.mk rfl, hp.keep (i := 4) (by decide) (by decide) id id id⟩ trivial⟩
              unfold execOp
              simp [go_sem, q0]
            case s5 =>
              intro Lb ac u hA hp hl hd
              have r0 := depP hd 4 51 rfl rfl
              have q0 := ev_of (show ac.eval (.tmp 51) = .pointer (some ⟨gx, 1, none⟩) from r0)
              have y0 := (hp.any (D := fun x => x.cell? ⟨gx, 1, none⟩ = some (.slice ka M kc)) (fun h => by rw [h.cell 1, HXX.out]; rfl) (fun h => by rw [h.cell 1, HXX.out]; rfl) (fun h => by obtain ⟨A9, h⟩ := h; rw [h.cell 1, HXX.out]; rfl))
              refine ⟨rfl, StepOK.run (.slice ka M kc) ?_ ⟨Vals.mk rfl, hp.keep (i := 5) (by decide) (by decide) id id id⟩ trivial⟩
              unfold execOp
              simp [go_sem, q0, y0]
            case s6 =>
              intro Lb ac u hA hp hl hd
              have r0 := depP hd 3 50 rfl rfl
              have q0 := ev_of (show ac.eval (.tmp 50) = .pointer (some ⟨g2, 0, none⟩) from r0)
              have r1 := depP hd 5 52 rfl rfl
              have q1 := ev_of (show ac.eval (.tmp 52) = .slice ka M kc from r1)
              refine ⟨rfl, StepOK.call 11 #[.pointer (some ⟨g2, 0, none⟩), .slice ka M kc] ?_ ((HRPUT.out u (hp.2.1 (depL hd 2 rfl) hl)).mono ?_)⟩
              · unfold execOp
                simp [go_sem, q0, q1]
              · rintro e w2 ⟨rfl, hT9⟩
                exact ⟨_, rfl, ⟨Vals.mk rfl, hp.second (by decide) (depL hd 2 rfl) ((hp.2.1 (depL hd 2 rfl) hl).turnB hT9 hsz1)⟩, trivial⟩
            case s7 =>
              intro Lb ac u hA hp hl hd
              have r0 := depP hd 2 49 rfl rfl
              have q0 := ev_of (show ac.eval (.tmp 49) = .int .i64 pe from r0)
              have r1 := depP hd 6 53 rfl rfl
              have q1 := ev_of (show ac.eval (.tmp 53) = .int .i64 pe from r1)
              refine ⟨rfl, StepOK.run (.bool false) ?_ ⟨Vals.mk rfl, hp.keep (i := 7) (by decide) (by decide) id id id⟩ trivial⟩
              unfold execOp
              simp [go_sem, q0, q1]
            case s8 =>
              intro Lb ac u hA hp hl hd
              have r0 := depP hd 7 54 rfl rfl
              have q0 := ev_of (show ac.eval (.tmp 54) = .bool false from r0)
              refine ⟨rfl, StepOK.run (.bool false) ?_ ⟨Vals.mk rfl, hp.keep (i := 8) (by decide) (by decide) id id id⟩ trivial⟩
              unfold execOp
              simp [go_sem, q0]
            case s9 =>
              intro Lb ac u hA hp hl hd
              have q0 := ev_of (show ac.eval (.tmp 7) = .slice B M cB from hA.eval 7 rfl)
              have rg := depP hd 8 55 rfl rfl
              have qg : ac.eval (.tmp 55) = .bool false := rg
              refine ⟨(wanted_of rfl rfl qg).trans rfl, StepOK.run (.slice B M cB) ?_ ⟨Vals.mk rfl, hp.keep (i := 9) (by decide) (by decide) id id id⟩ trivial⟩
              unfold execOp
              simp [go_sem, q0]
            case s10 =>
              intro Lb ac u hA hp hl hd
              have q0 := ev_of (show ac.eval (.tmp 6) = .pointer (some ⟨gx, 0, none⟩) from hA.eval 6 rfl)
              have rg := depP hd 8 55 rfl rfl
              have qg : ac.eval (.tmp 55) = .bool false := rg
              refine ⟨(wanted_of rfl rfl qg).trans rfl, StepOK.run (.pointer (some ⟨gx, 1, none⟩)) ?_ ⟨Vals.mk rfl, hp.keep (i := 10) (by decide) (by decide) id id id⟩ trivial⟩
              unfold execOp
              simp [go_sem, q0]
            case s11 =>
              intro Lb ac u hA hp hl hd
              have r0 := depP hd 10 57 rfl rfl
              have q0 := ev_of (show ac.eval (.tmp 57) = .pointer (some ⟨gx, 1, none⟩) from r0)
              have rg := depP hd 8 55 rfl rfl
              have qg : ac.eval (.tmp 55) = .bool false := rg
              have y0 := (hp.any (D := fun x => x.cell? ⟨gx, 1, none⟩ = some (.slice ka M kc)) (fun h => by rw [h.cell 1, HXX.out]; rfl) (fun h => by rw [h.cell 1, HXX.out]; rfl) (fun h => by obtain ⟨A9, h⟩ := h; rw [h.cell 1, HXX.out]; rfl))
              refine ⟨(wanted_of rfl rfl qg).trans rfl, StepOK.run (.slice ka M kc) ?_ ⟨Vals.mk rfl, hp.keep (i := 11) (by decide) (by decide) id id id⟩ trivial⟩
              unfold execOp
              simp [go_sem, q0, y0]
            case s12 =>
              intro Lb ac u hA hp hl hd
              have r0 := depP hd 9 56 rfl rfl
              have q0 := ev_of (show ac.eval (.tmp 56) = .slice B M cB from r0)
              have r1 := depP hd 11 58 rfl rfl
              have q1 := ev_of (show ac.eval (.tmp 58) = .slice ka M kc from r1)
              have rg := depP hd 8 55 rfl rfl
              have qg : ac.eval (.tmp 55) = .bool false := rg
              refine ⟨(wanted_of rfl rfl qg).trans rfl, StepOK.call 12 #[.slice B M cB, .slice ka M kc] ?_ ((HSAM.out u (hp.any (D := fun x => Cel x B (ev L)) (fun h => h.own.cel) (fun h => h.own.cel) (fun h => by obtain ⟨A9, h⟩ := h; exact h.own.cel)) (hp.any (D := fun x => Cel x ka (ev L)) (fun h => HSTO.out.cel.below h.pl.on) (fun h => HSTO.out.cel.below h.pl.on) (fun h => by obtain ⟨A9, h⟩ := h; exact HSTO.out.cel.below h.pl.on))).mono ?_)⟩
              · unfold execOp
                simp [go_sem, q0, q1]
              · rintro e w2 ⟨rfl, q, rfl⟩
                exact ⟨_, rfl, ⟨Vals.mk rfl, hp.keep (i := 12) (by decide) (by decide) (fun h => h.below (below_drewN (Below.refl _ _) q)) (fun h => h.below (below_drewN (Below.refl _ _) q)) (fun h => by obtain ⟨A9, h⟩ := h; exact ⟨A9, h.below (below_drewN (Below.refl _ _) q)⟩)⟩, trivial⟩
            case s13 =>
              intro Lb ac u hA hp hl hd
              have r0 := depP hd 12 59 rfl rfl
              have q0 := ev_of (show ac.eval (.tmp 59) = .bool true from r0)
              have rg := depP hd 8 55 rfl rfl
              have qg : ac.eval (.tmp 55) = .bool false := rg
              refine ⟨(wanted_of rfl rfl qg).trans rfl, StepOK.run (.bool false) ?_ ⟨Vals.mk rfl, hp.keep (i := 13) (by decide) (by decide) id id id⟩ trivial⟩
              unfold execOp
              simp [go_sem, q0]
            case s14 =>
              intro Lb ac u hA hp hl hd
              have r0 := depP hd 8 55 rfl rfl
              have q0 := ev_of (show ac.eval (.tmp 55) = .bool false from r0)
              have r1 := depP hd 13 60 rfl rfl
              have q1 := ev_of (show ac.eval (.tmp 60) = .bool false from r1)
              refine ⟨rfl, StepOK.run (.bool false) ?_ ⟨Vals.mk rfl, hp.keep (i := 14) (by decide) (by decide) id id id⟩ trivial⟩
              unfold execOp
              simp [go_sem, q0, q1]
          case fin =>
            intro Lb vs u hp hv hall
            have e0 : vs 0 = .pointer (some ⟨g, 0, none⟩) := hv 0 (by decide)
            have e1 : vs 1 = .slice B M cB := hv 1 (by decide)
            have e2 : vs 2 = .int .i64 pe := hv 2 (by decide)
            have e3 : vs 3 = .pointer (some ⟨g2, 0, none⟩) := hv 3 (by decide)
            have e4 : vs 4 = .pointer (some ⟨gx, 1, none⟩) := hv 4 (by decide)
            have e5 : vs 5 = .slice ka M kc := hv 5 (by decide)
            have e6 : vs 6 = .int .i64 pe := hv 6 (by decide)
            have e7 : vs 7 = .bool false := hv 7 (by decide)
            have e8 : vs 8 = .bool false := hv 8 (by decide)
            have e9 : vs 9 = .slice B M cB := hv 9 (by decide)
            have e10 : vs 10 = .pointer (some ⟨gx, 1, none⟩) := hv 10 (by decide)
            have e11 : vs 11 = .slice ka M kc := hv 11 (by decide)
            have e12 : vs 12 = .bool true := hv 12 (by decide)
            have e13 : vs 13 = .bool false := hv 13 (by decide)
            have e14 : vs 14 = .bool false := hv 14 (by decide)
            simp only [putsFrom, Act.put, List.setIfInBounds_toArray, List.set_cons_succ, List.set_cons_zero, Nat.reduceAdd, e0, e1, e2, e3, e4, e5, e6, e7, e8, e9, e10, e11, e12, e13, e14]
            clear e0 e1 e2 e3 e4 e5 e6 e7 e8 e9 e10 e11 e12 e13 e14 hv
            obtain ⟨A2, hPw⟩ : ∃ A9, Pw w u g b g2 gx X A9 B M cB L T2 T2 := hp.2.2 (hall 2 (by decide)) (hall 6 (by decide))
            have PW2 := Lib.hid hPw
            clear hp hall hPw HPUT HRPUT HSAM PWS
            go_wp2_with (fail)
            go_loopw [8] (fun i wr => ∃ (k3 : Nat) (L3 : List Re), i = .int .i64 k3 ∧ k3 ≤ M ∧ Hid (L3.length = M) ∧ Hid (Pw w wr g b g2 gx X A2 B M cB L3 T2 T2)) (fun i _ => M - (intOf i).toNat)
            case atStart => exact ⟨0, L, rfl, Nat.zero_le _, HLM, PW2⟩
            case round =>
              obtain ⟨k3, L3, rfl, hk3, hL3, hP3⟩ := hrel
              by_cases h3 : k3 < M
              · obtain ⟨bB, hBB, cur, hcur⟩ := hP3.out.own.head (by have := hP3.out.own.2.1; omega)
                subst hBB
                obtain ⟨b4, o4, e4, _, hc4⟩ := hP3.out.own.cel.re (by rw [hL3.out]; omega)
                injection e4 with e4
                injection e4 with e41 e42
                subst e41 e42
                obtain ⟨_, f2⟩ := hc4 k3 (by rw [hL3.out]; exact h3)
                rw [Nat.zero_add] at f2
                have f3 : wr.frozen? ⟨bB, k3 * 2 + 1, none⟩ = false := frozen_of hcur
                obtain ⟨y, hy⟩ : ∃ y, ((L3.getD k3 re0).word + 1) % 18446744073709551616 = y := ⟨_, rfl⟩
                have hn := Lib.hid (hP3.out.word (k := k3) y (by rw [hL3.out]; exact h3) rfl)
                have hnl := Lib.hid (show (L3.set k3 ⟨(L3.getD k3 re0).pos, y⟩).length = M by rw [List.length_set]; exact hL3.out)
                clear hc4 hcur
                generalize (L3.getD k3 re0).word = x at *
                generalize (L3.getD k3 re0).pos = p at *
                have hw1 : ((x : Int) + 1) % 18446744073709551616 = (y : Int) := by omega
                have hw2 : IntKind.u64.wrap ((x : Int) + 1) = (y : Int) := by rw [IntKind.wrap_u64]; omega
                clear hy
                go_wp2_with (fail)
                go_roundw
                case rel => exact ⟨k3 + 1, _, by go_num, by omega, hnl, hn⟩
                case measure => simp [intOf]; omega
              · obtain rfl : M = k3 := by omega
                have PS := Lib.hid hP3.out.pl
                clear hP3 PW2 hL3
                generalize wr = W at *
                obtain ⟨m2, hTm⟩ : ∃ m2, T2.length = m2 := ⟨_, rfl⟩
                have HTM := Lib.hid hTm
                have hm2 : m2 ≤ 1099511627776 := by omega
                obtain ⟨c9, hrow, hcel⟩ := PS.out.row
                rw [hTm] at hrow hl9
                have HCEL := Lib.hid hcel
                have HROW := Lib.hid hrow
                have HG2 := Lib.hid PS.out.rx.ltg
                clear hTm hcel hrow
                go_wp2_with (fail)
                have HSAME : Hid (∀ (u : World) (Ar : Option Addr) (cr : Nat), Cel u Ar (ev T2) → Cel u A2 (ev T2) → Calls Try.prog 12 #[.slice Ar m2 cr, .slice A2 m2 c9] u (Q (.bool true) u)) := Lib.hid (fun u Ar cr h1 h2 => by
                  have := rsame_calls Ar A2 T2 T2 cr c9 u h1 h2 (by rw [HTM.out]; omega) (by rw [HTM.out]; omega)
                  rw [rowsB_self, HTM.out] at this
                  exact this)
                refine wp_region_phase (T := On) (ValsR [.pointer (some ⟨g, 0, none⟩), .int .i64 (m2 : Nat), .pointer (some ⟨g2, 0, none⟩), .pointer (some ⟨g2, 0, none⟩), .pointer (some ⟨g2, 0, none⟩), .slice A2 m2 c9, .int .i64 (m2 : Nat), .bool false, .bool false, .pointer (some ⟨g, 0, none⟩), undef, .pointer (some ⟨g2, 0, none⟩), .pointer (some ⟨g2, 0, none⟩), .pointer (some ⟨g2, 0, none⟩), .slice A2 m2 c9, .bool true, .bool false, .bool false] 10 (fun v x => ∃ Ar cr, v = .slice Ar m2 cr ∧ Cel x Ar (ev T2))) (fun _ u => On W u) (by kernel_rfl) (by kernel_rfl) (by kernel_rfl) (fun i v x y h hT => ValsR.stable (T := On) (fun v x y h hT => by obtain ⟨Ar, cr, e, hc⟩ := h; exact ⟨Ar, cr, e, hc.below hT⟩) i v x y h hT) ((Below.refl W.heap.size W).drew) ?steps ?fin
                case steps =>
                  refine ⟨?s0, ?s1, ?s2, ?s3, ?s4, ?s5, ?s6, ?s7, ?s8, ?s9, ?s10, ?s11, ?s12, ?s13, ?s14, ?s15, ?s16, ?s17, trivial⟩
                  case s0 =>
                    intro Lb ac u hA hp hl hd
                    have q0 := ev_of (show ac.eval (.tmp 3) = .pointer (some ⟨g, 0, none⟩) from hA.eval 3 rfl)
                    refine ⟨rfl, StepOK.run (.pointer (some ⟨g, 0, none⟩)) ?_ ⟨ValsR.mk (by decide) rfl, hp⟩ (On.refl _)⟩
                    unfold execOp
                    simp [go_sem, q0]
                  case s1 =>
                    intro Lb ac u hA hp hl hd
                    have r0 := (depP hd 0 87 rfl rfl).val (by decide)
                    have q0 := ev_of (show ac.eval (.tmp 87) = .pointer (some ⟨g, 0, none⟩) from r0)
                    refine ⟨rfl, StepOK.call 17 #[.pointer (some ⟨g, 0, none⟩)] ?_ ((len_calls (PS.out.ah.below hp)).mono ?_)⟩
                    · unfold execOp
                      simp [go_sem, q0]
                    · rintro e w2 ⟨rfl, rfl⟩
                      rw [HTM.out]
                      exact ⟨_, rfl, ⟨ValsR.mk (by decide) rfl, hp⟩, On.refl _⟩
                  case s2 =>
                    intro Lb ac u hA hp hl hd
                    have q0 := ev_of (show ac.eval (.tmp 4) = .pointer (some ⟨g2, 0, none⟩) from hA.eval 4 rfl)
                    refine ⟨rfl, StepOK.run (.pointer (some ⟨g2, 0, none⟩)) ?_ ⟨ValsR.mk (by decide) rfl, hp⟩ (On.refl _)⟩
                    unfold execOp
                    simp [go_sem, q0]
                  case s3 =>
                    intro Lb ac u hA hp hl hd
                    have r0 := (depP hd 2 89 rfl rfl).val (by decide)
                    have q0 := ev_of (show ac.eval (.tmp 89) = .pointer (some ⟨g2, 0, none⟩) from r0)
                    refine ⟨rfl, StepOK.run (.pointer (some ⟨g2, 0, none⟩)) ?_ ⟨ValsR.mk (by decide) rfl, hp⟩ (On.refl _)⟩
                    unfold execOp
                    simp [go_sem, q0]
                  case s4 =>
                    intro Lb ac u hA hp hl hd
                    have r0 := (depP hd 3 90 rfl rfl).val (by decide)
                    have q0 := ev_of (show ac.eval (.tmp 90) = .pointer (some ⟨g2, 0, none⟩) from r0)
                    refine ⟨rfl, StepOK.run (.pointer (some ⟨g2, 0, none⟩)) ?_ ⟨ValsR.mk (by decide) rfl, hp⟩ (On.refl _)⟩
                    unfold execOp
                    simp [go_sem, q0]
                  case s5 =>
                    intro Lb ac u hA hp hl hd
                    have r0 := (depP hd 4 91 rfl rfl).val (by decide)
                    have q0 := ev_of (show ac.eval (.tmp 91) = .pointer (some ⟨g2, 0, none⟩) from r0)
                    have y0 := ((show On W u from hp).cell (p := ⟨g2, 0, none⟩) HG2.out).trans HROW.out
                    refine ⟨rfl, StepOK.run (.slice A2 m2 c9) ?_ ⟨ValsR.mk (by decide) rfl, hp⟩ (On.refl _)⟩
                    unfold execOp
                    simp [go_sem, q0, y0]
                  case s6 =>
                    intro Lb ac u hA hp hl hd
                    have r0 := (depP hd 5 92 rfl rfl).val (by decide)
                    have q0 := ev_of (show ac.eval (.tmp 92) = .slice A2 m2 c9 from r0)
                    refine ⟨rfl, StepOK.run (.int .i64 (m2 : Nat)) ?_ ⟨ValsR.mk (by decide) rfl, hp⟩ (On.refl _)⟩
                    unfold execOp
                    simp [go_sem, q0]
                  case s7 =>
                    intro Lb ac u hA hp hl hd
                    have r0 := (depP hd 1 88 rfl rfl).val (by decide)
                    have q0 := ev_of (show ac.eval (.tmp 88) = .int .i64 (m2 : Nat) from r0)
                    have r1 := (depP hd 6 93 rfl rfl).val (by decide)
                    have q1 := ev_of (show ac.eval (.tmp 93) = .int .i64 (m2 : Nat) from r1)
                    refine ⟨rfl, StepOK.run (.bool false) ?_ ⟨ValsR.mk (by decide) rfl, hp⟩ (On.refl _)⟩
                    unfold execOp
                    simp [go_sem, q0, q1]
                  case s8 =>
                    intro Lb ac u hA hp hl hd
                    have r0 := (depP hd 7 94 rfl rfl).val (by decide)
                    have q0 := ev_of (show ac.eval (.tmp 94) = .bool false from r0)
                    refine ⟨rfl, StepOK.run (.bool false) ?_ ⟨ValsR.mk (by decide) rfl, hp⟩ (On.refl _)⟩
                    unfold execOp
                    simp [go_sem, q0]
                  case s9 =>
                    intro Lb ac u hA hp hl hd
                    have q0 := ev_of (show ac.eval (.tmp 3) = .pointer (some ⟨g, 0, none⟩) from hA.eval 3 rfl)
                    have rg := (depP hd 8 95 rfl rfl).val (by decide)
                    have qg : ac.eval (.tmp 95) = .bool false := rg
                    refine ⟨(wanted_of rfl rfl qg).trans rfl, StepOK.run (.pointer (some ⟨g, 0, none⟩)) ?_ ⟨ValsR.mk (by decide) rfl, hp⟩ (On.refl _)⟩
                    unfold execOp
                    simp [go_sem, q0]
                  case s10 =>
                    intro Lb ac u hA hp hl hd
                    have r0 := (depP hd 9 96 rfl rfl).val (by decide)
                    have q0 := ev_of (show ac.eval (.tmp 96) = .pointer (some ⟨g, 0, none⟩) from r0)
                    have rg := (depP hd 8 95 rfl rfl).val (by decide)
                    have qg : ac.eval (.tmp 95) = .bool false := rg
                    refine ⟨(wanted_of rfl rfl qg).trans rfl, StepOK.call 18 #[.pointer (some ⟨g, 0, none⟩)] ?_ ((list_calls (PS.out.ah.below hp) (by rw [HTM.out]; exact hm2)).mono ?_)⟩
                    · unfold execOp
                      simp [go_sem, q0]
                    · rintro e w2 ⟨Ar, cr, rfl, hM, hb⟩
                      rw [HTM.out] at hM ⊢
                      exact ⟨_, rfl, ⟨ValsR.at ⟨Ar, cr, rfl, hM.cel⟩, On.trans (show On W u from hp) hb⟩, hb⟩
                  case s11 =>
                    intro Lb ac u hA hp hl hd
                    have q0 := ev_of (show ac.eval (.tmp 4) = .pointer (some ⟨g2, 0, none⟩) from hA.eval 4 rfl)
                    have rg := (depP hd 8 95 rfl rfl).val (by decide)
                    have qg : ac.eval (.tmp 95) = .bool false := rg
                    refine ⟨(wanted_of rfl rfl qg).trans rfl, StepOK.run (.pointer (some ⟨g2, 0, none⟩)) ?_ ⟨ValsR.mk (by decide) rfl, hp⟩ (On.refl _)⟩
                    unfold execOp
                    simp [go_sem, q0]
                  case s12 =>
                    intro Lb ac u hA hp hl hd
                    have r0 := (depP hd 11 98 rfl rfl).val (by decide)
                    have q0 := ev_of (show ac.eval (.tmp 98) = .pointer (some ⟨g2, 0, none⟩) from r0)
                    have rg := (depP hd 8 95 rfl rfl).val (by decide)
                    have qg : ac.eval (.tmp 95) = .bool false := rg
                    refine ⟨(wanted_of rfl rfl qg).trans rfl, StepOK.run (.pointer (some ⟨g2, 0, none⟩)) ?_ ⟨ValsR.mk (by decide) rfl, hp⟩ (On.refl _)⟩
                    unfold execOp
                    simp [go_sem, q0]
                  case s13 =>
                    intro Lb ac u hA hp hl hd
                    have r0 := (depP hd 12 99 rfl rfl).val (by decide)
                    have q0 := ev_of (show ac.eval (.tmp 99) = .pointer (some ⟨g2, 0, none⟩) from r0)
                    have rg := (depP hd 8 95 rfl rfl).val (by decide)
                    have qg : ac.eval (.tmp 95) = .bool false := rg
                    refine ⟨(wanted_of rfl rfl qg).trans rfl, StepOK.run (.pointer (some ⟨g2, 0, none⟩)) ?_ ⟨ValsR.mk (by decide) rfl, hp⟩ (On.refl _)⟩
                    unfold execOp
                    simp [go_sem, q0]
                  case s14 =>
                    intro Lb ac u hA hp hl hd
                    have r0 := (depP hd 13 100 rfl rfl).val (by decide)
                    have q0 := ev_of (show ac.eval (.tmp 100) = .pointer (some ⟨g2, 0, none⟩) from r0)
                    have rg := (depP hd 8 95 rfl rfl).val (by decide)
                    have qg : ac.eval (.tmp 95) = .bool false := rg
                    have y0 := ((show On W u from hp).cell (p := ⟨g2, 0, none⟩) HG2.out).trans HROW.out
                    refine ⟨(wanted_of rfl rfl qg).trans rfl, StepOK.run (.slice A2 m2 c9) ?_ ⟨ValsR.mk (by decide) rfl, hp⟩ (On.refl _)⟩
                    unfold execOp
                    simp [go_sem, q0, y0]
                  case s15 =>
                    intro Lb ac u hA hp hl hd
                    have r0 := (depP hd 14 101 rfl rfl).val (by decide)
                    have q0 := ev_of (show ac.eval (.tmp 101) = .slice A2 m2 c9 from r0)
                    obtain ⟨Ar, cr, er, hcr⟩ := (depP hd 10 97 rfl rfl).row
                    have qr := ev_of er
                    have rg := (depP hd 8 95 rfl rfl).val (by decide)
                    have qg : ac.eval (.tmp 95) = .bool false := rg
                    refine ⟨(wanted_of rfl rfl qg).trans rfl, StepOK.call 12 #[.slice Ar m2 cr, .slice A2 m2 c9] ?_ ((HSAME.out u Ar cr hcr (HCEL.out.below hp)).mono ?_)⟩
                    · unfold execOp
                      simp [go_sem, q0, qr]
                    · rintro e w2 ⟨rfl, q, rfl⟩
                      exact ⟨_, rfl, ⟨ValsR.mk (by decide) rfl, On.trans (show On W u from hp) (below_drewN (Below.refl _ _) q)⟩, below_drewN (Below.refl _ _) q⟩
                  case s16 =>
                    intro Lb ac u hA hp hl hd
                    have r0 := (depP hd 15 102 rfl rfl).val (by decide)
                    have q0 := ev_of (show ac.eval (.tmp 102) = .bool true from r0)
                    have rg := (depP hd 8 95 rfl rfl).val (by decide)
                    have qg : ac.eval (.tmp 95) = .bool false := rg
                    refine ⟨(wanted_of rfl rfl qg).trans rfl, StepOK.run (.bool false) ?_ ⟨ValsR.mk (by decide) rfl, hp⟩ (On.refl _)⟩
                    unfold execOp
                    simp [go_sem, q0]
                  case s17 =>
                    intro Lb ac u hA hp hl hd
                    have r0 := (depP hd 8 95 rfl rfl).val (by decide)
                    have q0 := ev_of (show ac.eval (.tmp 95) = .bool false from r0)
                    have r1 := (depP hd 16 103 rfl rfl).val (by decide)
                    have q1 := ev_of (show ac.eval (.tmp 103) = .bool false from r1)
                    refine ⟨rfl, StepOK.run (.bool false) ?_ ⟨ValsR.mk (by decide) rfl, hp⟩ (On.refl _)⟩
                    unfold execOp
                    simp [go_sem, q0, q1]
                case fin =>
                  intro Lb vs u hp hv hall
                  have e0 : vs 0 = .pointer (some ⟨g, 0, none⟩) := (hv 0 (by decide)).val (by decide)
                  have e1 : vs 1 = .int .i64 (m2 : Nat) := (hv 1 (by decide)).val (by decide)
                  have e2 : vs 2 = .pointer (some ⟨g2, 0, none⟩) := (hv 2 (by decide)).val (by decide)
                  have e3 : vs 3 = .pointer (some ⟨g2, 0, none⟩) := (hv 3 (by decide)).val (by decide)
                  have e4 : vs 4 = .pointer (some ⟨g2, 0, none⟩) := (hv 4 (by decide)).val (by decide)
                  have e5 : vs 5 = .slice A2 m2 c9 := (hv 5 (by decide)).val (by decide)
                  have e6 : vs 6 = .int .i64 (m2 : Nat) := (hv 6 (by decide)).val (by decide)
                  have e7 : vs 7 = .bool false := (hv 7 (by decide)).val (by decide)
                  have e8 : vs 8 = .bool false := (hv 8 (by decide)).val (by decide)
                  have e9 : vs 9 = .pointer (some ⟨g, 0, none⟩) := (hv 9 (by decide)).val (by decide)
                  obtain ⟨Ar9, cr9, e10, _⟩ := (hv 10 (by decide)).row
                  have e11 : vs 11 = .pointer (some ⟨g2, 0, none⟩) := (hv 11 (by decide)).val (by decide)
                  have e12 : vs 12 = .pointer (some ⟨g2, 0, none⟩) := (hv 12 (by decide)).val (by decide)
                  have e13 : vs 13 = .pointer (some ⟨g2, 0, none⟩) := (hv 13 (by decide)).val (by decide)
                  have e14 : vs 14 = .slice A2 m2 c9 := (hv 14 (by decide)).val (by decide)
                  have e15 : vs 15 = .bool true := (hv 15 (by decide)).val (by decide)
                  have e16 : vs 16 = .bool false := (hv 16 (by decide)).val (by decide)
                  have e17 : vs 17 = .bool false := (hv 17 (by decide)).val (by decide)
                  simp only [putsFrom, Act.put, List.setIfInBounds_toArray, List.set_cons_succ, List.set_cons_zero, Nat.reduceAdd, e0, e1, e2, e3, e4, e5, e6, e7, e8, e9, e10, e11, e12, e13, e14, e15, e16, e17]
                  clear e0 e1 e2 e3 e4 e5 e6 e7 e8 e9 e10 e11 e12 e13 e14 e15 e16 e17 hv
                  have HPn := Lib.hid (PS.out.below hp)
                  clear hp hall HSAME HCEL HROW
                  go_wp2_with (fail)
                  go_roundw
                  case rel => exact ⟨k + 1, T2, A2, by go_num, by omega, by rw [HTM.out]; exact hl9, HPn⟩
                  case measure => simp [intOf]; omega
        · have hna : ¬ (act = 0) := ha
          by_cases ha1 : act = 1
          · subst ha1
            go_upto_region 23 with (fail)
            rw [← hV2b]
            clear hV2b x0 x1 x2 x3 hS
            generalize wr.heap.size = gx at *
            have PWS := Lib.hid (show Pw w V2 g b g2 gx X A none 0 0 [] T T from ⟨HS2.out, HX2.out, OwnR.nil _ _ _, fun ad e => (by cases e), fun ad a e => (by cases e)⟩)
            have hp0 := Lib.hid HSTO.out.p0
            have hp1 := Lib.hid HSTO.out.p1
            have hp0' : -9223372036854775808 ≤ pos := HSTO.out.p0
            have hp1' : pos ≤ 9223372036854775807 := HSTO.out.p1
            obtain ⟨de, hde⟩ : ∃ de, doneE T pos = de := ⟨_, rfl⟩
            obtain ⟨T2, hT2⟩ : ∃ T2, delT T pos = T2 := ⟨_, rfl⟩
            have hl9 : T2.length ≤ 2000 * (k + 1) := by
              have := del_le T pos
              rw [hT2] at this
              omega
            have HDN : Hid (∀ u, Pw w u g b g2 gx X A none 0 0 [] T T → Calls Try.prog 13 #[.pointer (some ⟨g, 0, none⟩), .int .i64 pos] u fun e w' => e = .returned (.int .i64 de) ∧ Ah w' g b T2 ∧ u.grownBy w' (some b)) := Lib.hid (fun u h => by
              have := done_calls h.pl.ah pos hp0' hp1'
              rw [hde, hT2] at this
              exact this)
            have HRDN : Hid (∀ u, Pw w u g b g2 gx X A none 0 0 [] T2 T → Calls Try.prog 14 #[.pointer (some ⟨g2, 0, none⟩), .int .i64 pos] u (ErrPost w u g2 A T2 de)) := Lib.hid (fun u h => by
              have := rDone_calls h.pl.rx pos h.pl.on.size (by omega)
              rw [hde, hT2] at this
              exact this)
            clear HS2 HX2 hde hT2 hp0' hp1'
            go_wp2_with (fail)
            refine wp_region_phase (T := (fun _ _ => True)) (Vals [.pointer (some ⟨g, 0, none⟩), .pointer (some ⟨gx, 2, none⟩), .int .i64 pos, .int .i64 de, .pointer (some ⟨g2, 0, none⟩), .pointer (some ⟨gx, 2, none⟩), .int .i64 pos, .int .i64 de, .bool false]) (PH2 3 7 (fun x => Pw w x g b g2 gx X A none 0 0 [] T T) (fun x => Pw w x g b g2 gx X A none 0 0 [] T2 T) (fun x => ∃ A9, Pw w x g b g2 gx X A9 none 0 0 [] T2 T2)) (by kernel_rfl) (by kernel_rfl) (by kernel_rfl) (fun i v w w2 h _ => h) (PH2.start (PWS.out.below (Below.refl _ _).drew)) ?steps ?fin
            case steps =>
              refine ⟨?s0, ?s1, ?s2, ?s3, ?s4, ?s5, ?s6, ?s7, ?s8, trivial⟩
              case s0 =>
                intro Lb ac u hA hp hl hd
                have q0 := ev_of (show ac.eval (.tmp 3) = .pointer (some ⟨g, 0, none⟩) from hA.eval 3 rfl)
                refine ⟨rfl, StepOK.run (.pointer (some ⟨g, 0, none⟩)) ?_ ⟨Vals.mk rfl, hp.keep (i := 0) (by decide) (by decide) id id id⟩ trivial⟩
                unfold execOp
                simp [go_sem, q0]
              case s1 =>
                intro Lb ac u hA hp hl hd
                have q0 := ev_of (show ac.eval (.tmp 6) = .pointer (some ⟨gx, 0, none⟩) from hA.eval 6 rfl)
                refine ⟨rfl, StepOK.run (.pointer (some ⟨gx, 2, none⟩)) ?_ ⟨Vals.mk rfl, hp.keep (i := 1) (by decide) (by decide) id id id⟩ trivial⟩
                unfold execOp
                simp [go_sem, q0]
              case s2 =>
                intro Lb ac u hA hp hl hd
                have r0 := depP hd 1 79 rfl rfl
                have q0 := ev_of (show ac.eval (.tmp 79) = .pointer (some ⟨gx, 2, none⟩) from r0)
                have y0 := (hp.any (D := fun x => x.cell? ⟨gx, 2, none⟩ = some (.int .i64 pos)) (fun h => by rw [h.cell 2, HXX.out]; rfl) (fun h => by rw [h.cell 2, HXX.out]; rfl) (fun h => by obtain ⟨A9, h⟩ := h; rw [h.cell 2, HXX.out]; rfl))
                refine ⟨rfl, StepOK.run (.int .i64 pos) ?_ ⟨Vals.mk rfl, hp.keep (i := 2) (by decide) (by decide) id id id⟩ trivial⟩
                unfold execOp
                simp [go_sem, q0, y0]
              case s3 =>
                intro Lb ac u hA hp hl hd
                have r0 := depP hd 0 78 rfl rfl
                have q0 := ev_of (show ac.eval (.tmp 78) = .pointer (some ⟨g, 0, none⟩) from r0)
                have r1 := depP hd 2 80 rfl rfl
                have q1 := ev_of (show ac.eval (.tmp 80) = .int .i64 pos from r1)
                refine ⟨rfl, StepOK.call 13 #[.pointer (some ⟨g, 0, none⟩), .int .i64 pos] ?_ ((HDN.out u (hp.1 hl).2).mono ?_)⟩
                · unfold execOp
                  simp [go_sem, q0, q1]
                · rintro e w2 ⟨rfl, hA2, hG2⟩
                  exact ⟨_, rfl, ⟨Vals.mk rfl, hp.first (by decide) hl ((hp.1 hl).2.turnA hG2 hA2 hb)⟩, trivial⟩
              case s4 =>
                intro Lb ac u hA hp hl hd
                have q0 := ev_of (show ac.eval (.tmp 4) = .pointer (some ⟨g2, 0, none⟩) from hA.eval 4 rfl)
                refine ⟨rfl, StepOK.run (.pointer (some ⟨g2, 0, none⟩)) ?_ ⟨Vals.mk rfl, hp.keep (i := 4) (by decide) (by decide) id id id⟩ trivial⟩
                unfold execOp
                simp [go_sem, q0]
              case s5 =>
                intro Lb ac u hA hp hl hd
                have q0 := ev_of (show ac.eval (.tmp 6) = .pointer (some ⟨gx, 0, none⟩) from hA.eval 6 rfl)
                refine ⟨rfl, StepOK.run (.pointer (some ⟨gx, 2, none⟩)) ?_ ⟨Vals.mk rfl, hp.keep (i := 5) (by decide) (by decide) id id id⟩ trivial⟩
                unfold execOp
                simp [go_sem, q0]
              case s6 =>
                intro Lb ac u hA hp hl hd
                have r0 := depP hd 5 83 rfl rfl
                have q0 := ev_of (show ac.eval (.tmp 83) = .pointer (some ⟨gx, 2, none⟩) from r0)
                have y0 := (hp.any (D := fun x => x.cell? ⟨gx, 2, none⟩ = some (.int .i64 pos)) (fun h => by rw [h.cell 2, HXX.out]; rfl) (fun h => by rw [h.cell 2, HXX.out]; rfl) (fun h => by obtain ⟨A9, h⟩ := h; rw [h.cell 2, HXX.out]; rfl))
                refine ⟨rfl, StepOK.run (.int .i64 pos) ?_ ⟨Vals.mk rfl, hp.keep (i := 6) (by decide) (by decide) id id id⟩ trivial⟩
                unfold execOp
                simp [go_sem, q0, y0]
              case s7 =>
                intro Lb ac u hA hp hl hd
                have r0 := depP hd 4 82 rfl rfl
                have q0 := ev_of (show ac.eval (.tmp 82) = .pointer (some ⟨g2, 0, none⟩) from r0)
                have r1 := depP hd 6 84 rfl rfl
                have q1 := ev_of (show ac.eval (.tmp 84) = .int .i64 pos from r1)
                refine ⟨rfl, StepOK.call 14 #[.pointer (some ⟨g2, 0, none⟩), .int .i64 pos] ?_ ((HRDN.out u (hp.2.1 (depL hd 3 rfl) hl)).mono ?_)⟩
                · unfold execOp
                  simp [go_sem, q0, q1]
                · rintro e w2 ⟨rfl, hT9⟩
                  exact ⟨_, rfl, ⟨Vals.mk rfl, hp.second (by decide) (depL hd 3 rfl) ((hp.2.1 (depL hd 3 rfl) hl).turnB hT9 hsz1)⟩, trivial⟩
              case s8 =>
                intro Lb ac u hA hp hl hd
                have r0 := depP hd 3 81 rfl rfl
                have q0 := ev_of (show ac.eval (.tmp 81) = .int .i64 de from r0)
                have r1 := depP hd 7 85 rfl rfl
                have q1 := ev_of (show ac.eval (.tmp 85) = .int .i64 de from r1)
                refine ⟨rfl, StepOK.run (.bool false) ?_ ⟨Vals.mk rfl, hp.keep (i := 8) (by decide) (by decide) id id id⟩ trivial⟩
                unfold execOp
                simp [go_sem, q0, q1]
            case fin =>
              intro Lb vs u hp hv hall
              have e0 : vs 0 = .pointer (some ⟨g, 0, none⟩) := hv 0 (by decide)
              have e1 : vs 1 = .pointer (some ⟨gx, 2, none⟩) := hv 1 (by decide)
              have e2 : vs 2 = .int .i64 pos := hv 2 (by decide)
              have e3 : vs 3 = .int .i64 de := hv 3 (by decide)
              have e4 : vs 4 = .pointer (some ⟨g2, 0, none⟩) := hv 4 (by decide)
              have e5 : vs 5 = .pointer (some ⟨gx, 2, none⟩) := hv 5 (by decide)
              have e6 : vs 6 = .int .i64 pos := hv 6 (by decide)
              have e7 : vs 7 = .int .i64 de := hv 7 (by decide)
              have e8 : vs 8 = .bool false := hv 8 (by decide)
              simp only [putsFrom, Act.put, List.setIfInBounds_toArray, List.set_cons_succ, List.set_cons_zero, Nat.reduceAdd, e0, e1, e2, e3, e4, e5, e6, e7, e8]
              clear e0 e1 e2 e3 e4 e5 e6 e7 e8 hv
              obtain ⟨A2, hPw⟩ : ∃ A9, Pw w u g b g2 gx X A9 none 0 0 [] T2 T2 := hp.2.2 (hall 3 (by decide)) (hall 7 (by decide))
              have PS := Lib.hid hPw.pl
              clear hp hall hPw HDN HRDN PWS
              generalize u = W at *
              obtain ⟨m2, hTm⟩ : ∃ m2, T2.length = m2 := ⟨_, rfl⟩
              have HTM := Lib.hid hTm
              have hm2 : m2 ≤ 1099511627776 := by omega
              obtain ⟨c9, hrow, hcel⟩ := PS.out.row
              rw [hTm] at hrow hl9
              have HCEL := Lib.hid hcel
              have HROW := Lib.hid hrow
              have HG2 := Lib.hid PS.out.rx.ltg
              clear hTm hcel hrow
              go_wp2_with (fail)
              have HSAME : Hid (∀ (u : World) (Ar : Option Addr) (cr : Nat), Cel u Ar (ev T2) → Cel u A2 (ev T2) → Calls Try.prog 12 #[.slice Ar m2 cr, .slice A2 m2 c9] u (Q (.bool true) u)) := Lib.hid (fun u Ar cr h1 h2 => by
                have := rsame_calls Ar A2 T2 T2 cr c9 u h1 h2 (by rw [HTM.out]; omega) (by rw [HTM.out]; omega)
                rw [rowsB_self, HTM.out] at this
                exact this)
              refine wp_region_phase (T := On) (ValsR [.pointer (some ⟨g, 0, none⟩), .int .i64 (m2 : Nat), .pointer (some ⟨g2, 0, none⟩), .pointer (some ⟨g2, 0, none⟩), .pointer (some ⟨g2, 0, none⟩), .slice A2 m2 c9, .int .i64 (m2 : Nat), .bool false, .bool false, .pointer (some ⟨g, 0, none⟩), undef, .pointer (some ⟨g2, 0, none⟩), .pointer (some ⟨g2, 0, none⟩), .pointer (some ⟨g2, 0, none⟩), .slice A2 m2 c9, .bool true, .bool false, .bool false] 10 (fun v x => ∃ Ar cr, v = .slice Ar m2 cr ∧ Cel x Ar (ev T2))) (fun _ u => On W u) (by kernel_rfl) (by kernel_rfl) (by kernel_rfl) (fun i v x y h hT => ValsR.stable (T := On) (fun v x y h hT => by obtain ⟨Ar, cr, e, hc⟩ := h; exact ⟨Ar, cr, e, hc.below hT⟩) i v x y h hT) ((Below.refl W.heap.size W).drew) ?steps ?fin
              case steps =>
                refine ⟨?s0, ?s1, ?s2, ?s3, ?s4, ?s5, ?s6, ?s7, ?s8, ?s9, ?s10, ?s11, ?s12, ?s13, ?s14, ?s15, ?s16, ?s17, trivial⟩
                case s0 =>
                  intro Lb ac u hA hp hl hd
                  have q0 := ev_of (show ac.eval (.tmp 3) = .pointer (some ⟨g, 0, none⟩) from hA.eval 3 rfl)
                  refine ⟨rfl, StepOK.run (.pointer (some ⟨g, 0, none⟩)) ?_ ⟨ValsR.mk (by decide) rfl, hp⟩ (On.refl _)⟩
                  unfold execOp
                  simp [go_sem, q0]
                case s1 =>
                  intro Lb ac u hA hp hl hd
                  have r0 := (depP hd 0 87 rfl rfl).val (by decide)
                  have q0 := ev_of (show ac.eval (.tmp 87) = .pointer (some ⟨g, 0, none⟩) from r0)
                  refine ⟨rfl, StepOK.call 17 #[.pointer (some ⟨g, 0, none⟩)] ?_ ((len_calls (PS.out.ah.below hp)).mono ?_)⟩
                  · unfold execOp
                    simp [go_sem, q0]
                  · rintro e w2 ⟨rfl, rfl⟩
                    rw [HTM.out]
                    exact ⟨_, rfl, ⟨ValsR.mk (by decide) rfl, hp⟩, On.refl _⟩
                case s2 =>
                  intro Lb ac u hA hp hl hd
                  have q0 := ev_of (show ac.eval (.tmp 4) = .pointer (some ⟨g2, 0, none⟩) from hA.eval 4 rfl)
                  refine ⟨rfl, StepOK.run (.pointer (some ⟨g2, 0, none⟩)) ?_ ⟨ValsR.mk (by decide) rfl, hp⟩ (On.refl _)⟩
                  unfold execOp
                  simp [go_sem, q0]
                case s3 =>
                  intro Lb ac u hA hp hl hd
                  have r0 := (depP hd 2 89 rfl rfl).val (by decide)
                  have q0 := ev_of (show ac.eval (.tmp 89) = .pointer (some ⟨g2, 0, none⟩) from r0)
                  refine ⟨rfl, StepOK.run (.pointer (some ⟨g2, 0, none⟩)) ?_ ⟨ValsR.mk (by decide) rfl, hp⟩ (On.refl _)⟩
                  unfold execOp
                  simp [go_sem, q0]
                case s4 =>
                  intro Lb ac u hA hp hl hd
                  have r0 := (depP hd 3 90 rfl rfl).val (by decide)
                  have q0 := ev_of (show ac.eval (.tmp 90) = .pointer (some ⟨g2, 0, none⟩) from r0)
                  refine ⟨rfl, StepOK.run (.pointer (some ⟨g2, 0, none⟩)) ?_ ⟨ValsR.mk (by decide) rfl, hp⟩ (On.refl _)⟩
                  unfold execOp
                  simp [go_sem, q0]
                case s5 =>
                  intro Lb ac u hA hp hl hd
                  have r0 := (depP hd 4 91 rfl rfl).val (by decide)
                  have q0 := ev_of (show ac.eval (.tmp 91) = .pointer (some ⟨g2, 0, none⟩) from r0)
                  have y0 := ((show On W u from hp).cell (p := ⟨g2, 0, none⟩) HG2.out).trans HROW.out
                  refine ⟨rfl, StepOK.run (.slice A2 m2 c9) ?_ ⟨ValsR.mk (by decide) rfl, hp⟩ (On.refl _)⟩
                  unfold execOp
                  simp [go_sem, q0, y0]
                case s6 =>
                  intro Lb ac u hA hp hl hd
                  have r0 := (depP hd 5 92 rfl rfl).val (by decide)
                  have q0 := ev_of (show ac.eval (.tmp 92) = .slice A2 m2 c9 from r0)
                  refine ⟨rfl, StepOK.run (.int .i64 (m2 : Nat)) ?_ ⟨ValsR.mk (by decide) rfl, hp⟩ (On.refl _)⟩
                  unfold execOp
                  simp [go_sem, q0]
                case s7 =>
                  intro Lb ac u hA hp hl hd
                  have r0 := (depP hd 1 88 rfl rfl).val (by decide)
                  have q0 := ev_of (show ac.eval (.tmp 88) = .int .i64 (m2 : Nat) from r0)
                  have r1 := (depP hd 6 93 rfl rfl).val (by decide)
                  have q1 := ev_of (show ac.eval (.tmp 93) = .int .i64 (m2 : Nat) from r1)
                  refine ⟨rfl, StepOK.run (.bool false) ?_ ⟨ValsR.mk (by decide) rfl, hp⟩ (On.refl _)⟩
                  unfold execOp
                  simp [go_sem, q0, q1]
                case s8 =>
                  intro Lb ac u hA hp hl hd
                  have r0 := (depP hd 7 94 rfl rfl).val (by decide)
                  have q0 := ev_of (show ac.eval (.tmp 94) = .bool false from r0)
                  refine ⟨rfl, StepOK.run (.bool false) ?_ ⟨ValsR.mk (by decide) rfl, hp⟩ (On.refl _)⟩
                  unfold execOp
                  simp [go_sem, q0]
                case s9 =>
                  intro Lb ac u hA hp hl hd
                  have q0 := ev_of (show ac.eval (.tmp 3) = .pointer (some ⟨g, 0, none⟩) from hA.eval 3 rfl)
                  have rg := (depP hd 8 95 rfl rfl).val (by decide)
                  have qg : ac.eval (.tmp 95) = .bool false := rg
                  refine ⟨(wanted_of rfl rfl qg).trans rfl, StepOK.run (.pointer (some ⟨g, 0, none⟩)) ?_ ⟨ValsR.mk (by decide) rfl, hp⟩ (On.refl _)⟩
                  unfold execOp
                  simp [go_sem, q0]
                case s10 =>
                  intro Lb ac u hA hp hl hd
                  have r0 := (depP hd 9 96 rfl rfl).val (by decide)
                  have q0 := ev_of (show ac.eval (.tmp 96) = .pointer (some ⟨g, 0, none⟩) from r0)
                  have rg := (depP hd 8 95 rfl rfl).val (by decide)
                  have qg : ac.eval (.tmp 95) = .bool false := rg
                  refine ⟨(wanted_of rfl rfl qg).trans rfl, StepOK.call 18 #[.pointer (some ⟨g, 0, none⟩)] ?_ ((list_calls (PS.out.ah.below hp) (by rw [HTM.out]; exact hm2)).mono ?_)⟩
                  · unfold execOp
                    simp [go_sem, q0]
                  · rintro e w2 ⟨Ar, cr, rfl, hM, hb⟩
                    rw [HTM.out] at hM ⊢
                    exact ⟨_, rfl, ⟨ValsR.at ⟨Ar, cr, rfl, hM.cel⟩, On.trans (show On W u from hp) hb⟩, hb⟩
                case s11 =>
                  intro Lb ac u hA hp hl hd
                  have q0 := ev_of (show ac.eval (.tmp 4) = .pointer (some ⟨g2, 0, none⟩) from hA.eval 4 rfl)
                  have rg := (depP hd 8 95 rfl rfl).val (by decide)
                  have qg : ac.eval (.tmp 95) = .bool false := rg
                  refine ⟨(wanted_of rfl rfl qg).trans rfl, StepOK.run (.pointer (some ⟨g2, 0, none⟩)) ?_ ⟨ValsR.mk (by decide) rfl, hp⟩ (On.refl _)⟩
                  unfold execOp
                  simp [go_sem, q0]
                case s12 =>
                  intro Lb ac u hA hp hl hd
                  have r0 := (depP hd 11 98 rfl rfl).val (by decide)
                  have q0 := ev_of (show ac.eval (.tmp 98) = .pointer (some ⟨g2, 0, none⟩) from r0)
                  have rg := (depP hd 8 95 rfl rfl).val (by decide)
                  have qg : ac.eval (.tmp 95) = .bool false := rg
                  refine ⟨(wanted_of rfl rfl qg).trans rfl, StepOK.run (.pointer (some ⟨g2, 0, none⟩)) ?_ ⟨ValsR.mk (by decide) rfl, hp⟩ (On.refl _)⟩
                  unfold execOp
                  simp [go_sem, q0]
                case s13 =>
                  intro Lb ac u hA hp hl hd
                  have r0 := (depP hd 12 99 rfl rfl).val (by decide)
                  have q0 := ev_of (show ac.eval (.tmp 99) = .pointer (some ⟨g2, 0, none⟩) from r0)
                  have rg := (depP hd 8 95 rfl rfl).val (by decide)
                  have qg : ac.eval (.tmp 95) = .bool false := rg
                  refine ⟨(wanted_of rfl rfl qg).trans rfl, StepOK.run (.pointer (some ⟨g2, 0, none⟩)) ?_ ⟨ValsR.mk (by decide) rfl, hp⟩ (On.refl _)⟩
                  unfold execOp
                  simp [go_sem, q0]
                case s14 =>
                  intro Lb ac u hA hp hl hd
                  have r0 := (depP hd 13 100 rfl rfl).val (by decide)
                  have q0 := ev_of (show ac.eval (.tmp 100) = .pointer (some ⟨g2, 0, none⟩) from r0)
                  have rg := (depP hd 8 95 rfl rfl).val (by decide)
                  have qg : ac.eval (.tmp 95) = .bool false := rg
                  have y0 := ((show On W u from hp).cell (p := ⟨g2, 0, none⟩) HG2.out).trans HROW.out
                  refine ⟨(wanted_of rfl rfl qg).trans rfl, StepOK.run (.slice A2 m2 c9) ?_ ⟨ValsR.mk (by decide) rfl, hp⟩ (On.refl _)⟩
                  unfold execOp
                  simp [go_sem, q0, y0]
                case s15 =>
                  intro Lb ac u hA hp hl hd
                  have r0 := (depP hd 14 101 rfl rfl).val (by decide)
                  have q0 := ev_of (show ac.eval (.tmp 101) = .slice A2 m2 c9 from r0)
                  obtain ⟨Ar, cr, er, hcr⟩ := (depP hd 10 97 rfl rfl).row
                  have qr := ev_of er
                  have rg := (depP hd 8 95 rfl rfl).val (by decide)
                  have qg : ac.eval (.tmp 95) = .bool false := rg
                  refine ⟨(wanted_of rfl rfl qg).trans rfl, StepOK.call 12 #[.slice Ar m2 cr, .slice A2 m2 c9] ?_ ((HSAME.out u Ar cr hcr (HCEL.out.below hp)).mono ?_)⟩
                  · unfold execOp
                    simp [go_sem, q0, qr]
                  · rintro e w2 ⟨rfl, q, rfl⟩
                    exact ⟨_, rfl, ⟨ValsR.mk (by decide) rfl, On.trans (show On W u from hp) (below_drewN (Below.refl _ _) q)⟩, below_drewN (Below.refl _ _) q⟩
                case s16 =>
                  intro Lb ac u hA hp hl hd
                  have r0 := (depP hd 15 102 rfl rfl).val (by decide)
                  have q0 := ev_of (show ac.eval (.tmp 102) = .bool true from r0)
                  have rg := (depP hd 8 95 rfl rfl).val (by decide)
                  have qg : ac.eval (.tmp 95) = .bool false := rg
                  refine ⟨(wanted_of rfl rfl qg).trans rfl, StepOK.run (.bool false) ?_ ⟨ValsR.mk (by decide) rfl, hp⟩ (On.refl _)⟩
                  unfold execOp
                  simp [go_sem, q0]
                case s17 =>
                  intro Lb ac u hA hp hl hd
                  have r0 := (depP hd 8 95 rfl rfl).val (by decide)
                  have q0 := ev_of (show ac.eval (.tmp 95) = .bool false from r0)
                  have r1 := (depP hd 16 103 rfl rfl).val (by decide)
                  have q1 := ev_of (show ac.eval (.tmp 103) = .bool false from r1)
                  refine ⟨rfl, StepOK.run (.bool false) ?_ ⟨ValsR.mk (by decide) rfl, hp⟩ (On.refl _)⟩
                  unfold execOp
                  simp [go_sem, q0, q1]
              case fin =>
                intro Lb vs u hp hv hall
                have e0 : vs 0 = .pointer (some ⟨g, 0, none⟩) := (hv 0 (by decide)).val (by decide)
                have e1 : vs 1 = .int .i64 (m2 : Nat) := (hv 1 (by decide)).val (by decide)
                have e2 : vs 2 = .pointer (some ⟨g2, 0, none⟩) := (hv 2 (by decide)).val (by decide)
                have e3 : vs 3 = .pointer (some ⟨g2, 0, none⟩) := (hv 3 (by decide)).val (by decide)
                have e4 : vs 4 = .pointer (some ⟨g2, 0, none⟩) := (hv 4 (by decide)).val (by decide)
                have e5 : vs 5 = .slice A2 m2 c9 := (hv 5 (by decide)).val (by decide)
                have e6 : vs 6 = .int .i64 (m2 : Nat) := (hv 6 (by decide)).val (by decide)
                have e7 : vs 7 = .bool false := (hv 7 (by decide)).val (by decide)
                have e8 : vs 8 = .bool false := (hv 8 (by decide)).val (by decide)
                have e9 : vs 9 = .pointer (some ⟨g, 0, none⟩) := (hv 9 (by decide)).val (by decide)
                obtain ⟨Ar9, cr9, e10, _⟩ := (hv 10 (by decide)).row
                have e11 : vs 11 = .pointer (some ⟨g2, 0, none⟩) := (hv 11 (by decide)).val (by decide)
                have e12 : vs 12 = .pointer (some ⟨g2, 0, none⟩) := (hv 12 (by decide)).val (by decide)
                have e13 : vs 13 = .pointer (some ⟨g2, 0, none⟩) := (hv 13 (by decide)).val (by decide)
                have e14 : vs 14 = .slice A2 m2 c9 := (hv 14 (by decide)).val (by decide)
                have e15 : vs 15 = .bool true := (hv 15 (by decide)).val (by decide)
                have e16 : vs 16 = .bool false := (hv 16 (by decide)).val (by decide)
                have e17 : vs 17 = .bool false := (hv 17 (by decide)).val (by decide)
                simp only [putsFrom, Act.put, List.setIfInBounds_toArray, List.set_cons_succ, List.set_cons_zero, Nat.reduceAdd, e0, e1, e2, e3, e4, e5, e6, e7, e8, e9, e10, e11, e12, e13, e14, e15, e16, e17]
                clear e0 e1 e2 e3 e4 e5 e6 e7 e8 e9 e10 e11 e12 e13 e14 e15 e16 e17 hv
                have HPn := Lib.hid (PS.out.below hp)
                clear hp hall HSAME HCEL HROW
                go_wp2_with (fail)
                go_roundw
                case rel => exact ⟨k + 1, T2, A2, by go_num, by omega, by rw [HTM.out]; exact hl9, HPn⟩
                case measure => simp [intOf]; omega
          · have hna1 : ¬ (act = 1) := ha1
            go_upto_region 12 with (fail)
            rw [← hV2b]
            clear hV2b x0 x1 x2 x3 hS
            generalize wr.heap.size = gx at *
            have PWS := Lib.hid (show Pw w V2 g b g2 gx X A none 0 0 [] T T from ⟨HS2.out, HX2.out, OwnR.nil _ _ _, fun ad e => (by cases e), fun ad a e => (by cases e)⟩)
            have hp0 := Lib.hid HSTO.out.p0
            have hp1 := Lib.hid HSTO.out.p1
            have hp0' : -9223372036854775808 ≤ pos := HSTO.out.p0
            have hp1' : pos ≤ 9223372036854775807 := HSTO.out.p1
            obtain ⟨ld, hld⟩ : ∃ ld, loadT T pos word = ld := ⟨_, rfl⟩
            have hl9 : T.length ≤ 2000 * (k + 1) := by omega
            have HLD : Hid (∀ u, Pw w u g b g2 gx X A none 0 0 [] T T → Calls Try.prog 15 #[.pointer (some ⟨g, 0, none⟩), .int .i64 pos, .int .u64 (word : Int)] u fun e w' => e = .returned (.int .u64 (ld : Int)) ∧ u = w') := Lib.hid (fun u h => by
              have := load_calls h.pl.ah pos word hp0' hp1'
              rw [hld] at this
              exact this)
            have HRLD : Hid (∀ u, Pw w u g b g2 gx X A none 0 0 [] T T → Calls Try.prog 16 #[.pointer (some ⟨g2, 0, none⟩), .int .i64 pos, .int .u64 (word : Int)] u fun e w' => e = .returned (.int .u64 (ld : Int)) ∧ u = w') := Lib.hid (fun u h => by
              have := rLoad_calls h.pl.rx pos word (by omega)
              rw [hld] at this
              exact this)
            clear HS2 HX2 hld hp0' hp1'
            go_wp2_with (fail)
            refine wp_region_phase (T := (fun _ _ => True)) (Vals [.pointer (some ⟨g, 0, none⟩), .pointer (some ⟨gx, 2, none⟩), .int .i64 pos, .pointer (some ⟨gx, 3, none⟩), .int .u64 (word : Int), .int .u64 (ld : Int), .pointer (some ⟨g2, 0, none⟩), .pointer (some ⟨gx, 2, none⟩), .int .i64 pos, .pointer (some ⟨gx, 3, none⟩), .int .u64 (word : Int), .int .u64 (ld : Int), .bool false]) (fun _ u => Pw w u g b g2 gx X A none 0 0 [] T T) (by kernel_rfl) (by kernel_rfl) (by kernel_rfl) (fun i v w w2 h _ => h) (PWS.out.below (Below.refl _ _).drew) ?steps ?fin
            case steps =>
              refine ⟨?s0, ?s1, ?s2, ?s3, ?s4, ?s5, ?s6, ?s7, ?s8, ?s9, ?s10, ?s11, ?s12, trivial⟩
              case s0 =>
                intro Lb ac u hA hp hl hd
                have q0 := ev_of (show ac.eval (.tmp 3) = .pointer (some ⟨g, 0, none⟩) from hA.eval 3 rfl)
                refine ⟨rfl, StepOK.run (.pointer (some ⟨g, 0, none⟩)) ?_ ⟨Vals.mk rfl, hp⟩ trivial⟩
                unfold execOp
                simp [go_sem, q0]
              case s1 =>
                intro Lb ac u hA hp hl hd
                have q0 := ev_of (show ac.eval (.tmp 6) = .pointer (some ⟨gx, 0, none⟩) from hA.eval 6 rfl)
                refine ⟨rfl, StepOK.run (.pointer (some ⟨gx, 2, none⟩)) ?_ ⟨Vals.mk rfl, hp⟩ trivial⟩
                unfold execOp
                simp [go_sem, q0]
              case s2 =>
                intro Lb ac u hA hp hl hd
                have r0 := depP hd 1 30 rfl rfl
                have q0 := ev_of (show ac.eval (.tmp 30) = .pointer (some ⟨gx, 2, none⟩) from r0)
                have y0 := (by have h9 : Pw w u g b g2 gx X A none 0 0 [] T T := hp; rw [h9.cell 2, HXX.out]; rfl : u.cell? ⟨gx, 2, none⟩ = some (.int .i64 pos))
                refine ⟨rfl, StepOK.run (.int .i64 pos) ?_ ⟨Vals.mk rfl, hp⟩ trivial⟩
                unfold execOp
                simp [go_sem, q0, y0]
              case s3 =>
                intro Lb ac u hA hp hl hd
                have q0 := ev_of (show ac.eval (.tmp 6) = .pointer (some ⟨gx, 0, none⟩) from hA.eval 6 rfl)
                refine ⟨rfl, StepOK.run (.pointer (some ⟨gx, 3, none⟩)) ?_ ⟨Vals.mk rfl, hp⟩ trivial⟩
                unfold execOp
                simp [go_sem, q0]
              case s4 =>
                intro Lb ac u hA hp hl hd
                have r0 := depP hd 3 32 rfl rfl
                have q0 := ev_of (show ac.eval (.tmp 32) = .pointer (some ⟨gx, 3, none⟩) from r0)
                have y0 := (by have h9 : Pw w u g b g2 gx X A none 0 0 [] T T := hp; rw [h9.cell 3, HXX.out]; rfl : u.cell? ⟨gx, 3, none⟩ = some (.int .u64 (word : Int)))
                refine ⟨rfl, StepOK.run (.int .u64 (word : Int)) ?_ ⟨Vals.mk rfl, hp⟩ trivial⟩
                unfold execOp
                simp [go_sem, q0, y0]
              case s5 =>
                intro Lb ac u hA hp hl hd
                have r0 := depP hd 0 29 rfl rfl
                have q0 := ev_of (show ac.eval (.tmp 29) = .pointer (some ⟨g, 0, none⟩) from r0)
                have r1 := depP hd 2 31 rfl rfl
                have q1 := ev_of (show ac.eval (.tmp 31) = .int .i64 pos from r1)
                have r2 := depP hd 4 33 rfl rfl
                have q2 := ev_of (show ac.eval (.tmp 33) = .int .u64 (word : Int) from r2)
                refine ⟨rfl, StepOK.call 15 #[.pointer (some ⟨g, 0, none⟩), .int .i64 pos, .int .u64 (word : Int)] ?_ ((HLD.out u hp).mono ?_)⟩
                · unfold execOp
                  simp [go_sem, q0, q1, q2]
                · rintro e w2 ⟨rfl, rfl⟩
                  exact ⟨_, rfl, ⟨Vals.mk rfl, hp⟩, trivial⟩
              case s6 =>
                intro Lb ac u hA hp hl hd
                have q0 := ev_of (show ac.eval (.tmp 4) = .pointer (some ⟨g2, 0, none⟩) from hA.eval 4 rfl)
                refine ⟨rfl, StepOK.run (.pointer (some ⟨g2, 0, none⟩)) ?_ ⟨Vals.mk rfl, hp⟩ trivial⟩
                unfold execOp
                simp [go_sem, q0]
              case s7 =>
                intro Lb ac u hA hp hl hd
                have q0 := ev_of (show ac.eval (.tmp 6) = .pointer (some ⟨gx, 0, none⟩) from hA.eval 6 rfl)
                refine ⟨rfl, StepOK.run (.pointer (some ⟨gx, 2, none⟩)) ?_ ⟨Vals.mk rfl, hp⟩ trivial⟩
                unfold execOp
                simp [go_sem, q0]
              case s8 =>
                intro Lb ac u hA hp hl hd
                have r0 := depP hd 7 36 rfl rfl
                have q0 := ev_of (show ac.eval (.tmp 36) = .pointer (some ⟨gx, 2, none⟩) from r0)
                have y0 := (by have h9 : Pw w u g b g2 gx X A none 0 0 [] T T := hp; rw [h9.cell 2, HXX.out]; rfl : u.cell? ⟨gx, 2, none⟩ = some (.int .i64 pos))
                refine ⟨rfl, StepOK.run (.int .i64 pos) ?_ ⟨Vals.mk rfl, hp⟩ trivial⟩
                unfold execOp
                simp [go_sem, q0, y0]
              case s9 =>
                intro Lb ac u hA hp hl hd
                have q0 := ev_of (show ac.eval (.tmp 6) = .pointer (some ⟨gx, 0, none⟩) from hA.eval 6 rfl)
                refine ⟨rfl, StepOK.run (.pointer (some ⟨gx, 3, none⟩)) ?_ ⟨Vals.mk rfl, hp⟩ trivial⟩
                unfold execOp
                simp [go_sem, q0]
              case s10 =>
                intro Lb ac u hA hp hl hd
                have r0 := depP hd 9 38 rfl rfl
                have q0 := ev_of (show ac.eval (.tmp 38) = .pointer (some ⟨gx, 3, none⟩) from r0)
                have y0 := (by have h9 : Pw w u g b g2 gx X A none 0 0 [] T T := hp; rw [h9.cell 3, HXX.out]; rfl : u.cell? ⟨gx, 3, none⟩ = some (.int .u64 (word : Int)))
                refine ⟨rfl, StepOK.run (.int .u64 (word : Int)) ?_ ⟨Vals.mk rfl, hp⟩ trivial⟩
                unfold execOp
                simp [go_sem, q0, y0]
              case s11 =>
                intro Lb ac u hA hp hl hd
                have r0 := depP hd 6 35 rfl rfl
                have q0 := ev_of (show ac.eval (.tmp 35) = .pointer (some ⟨g2, 0, none⟩) from r0)
                have r1 := depP hd 8 37 rfl rfl
                have q1 := ev_of (show ac.eval (.tmp 37) = .int .i64 pos from r1)
                have r2 := depP hd 10 39 rfl rfl
                have q2 := ev_of (show ac.eval (.tmp 39) = .int .u64 (word : Int) from r2)
                refine ⟨rfl, StepOK.call 16 #[.pointer (some ⟨g2, 0, none⟩), .int .i64 pos, .int .u64 (word : Int)] ?_ ((HRLD.out u hp).mono ?_)⟩
                · unfold execOp
                  simp [go_sem, q0, q1, q2]
                · rintro e w2 ⟨rfl, rfl⟩
                  exact ⟨_, rfl, ⟨Vals.mk rfl, hp⟩, trivial⟩
              case s12 =>
                intro Lb ac u hA hp hl hd
                have r0 := depP hd 5 34 rfl rfl
                have q0 := ev_of (show ac.eval (.tmp 34) = .int .u64 (ld : Int) from r0)
                have r1 := depP hd 11 40 rfl rfl
                have q1 := ev_of (show ac.eval (.tmp 40) = .int .u64 (ld : Int) from r1)
                refine ⟨rfl, StepOK.run (.bool false) ?_ ⟨Vals.mk rfl, hp⟩ trivial⟩
                unfold execOp
                simp [go_sem, q0, q1]
            case fin =>
              intro Lb vs u hp hv hall
              have e0 : vs 0 = .pointer (some ⟨g, 0, none⟩) := hv 0 (by decide)
              have e1 : vs 1 = .pointer (some ⟨gx, 2, none⟩) := hv 1 (by decide)
              have e2 : vs 2 = .int .i64 pos := hv 2 (by decide)
              have e3 : vs 3 = .pointer (some ⟨gx, 3, none⟩) := hv 3 (by decide)
              have e4 : vs 4 = .int .u64 (word : Int) := hv 4 (by decide)
              have e5 : vs 5 = .int .u64 (ld : Int) := hv 5 (by decide)
              have e6 : vs 6 = .pointer (some ⟨g2, 0, none⟩) := hv 6 (by decide)
              have e7 : vs 7 = .pointer (some ⟨gx, 2, none⟩) := hv 7 (by decide)
              have e8 : vs 8 = .int .i64 pos := hv 8 (by decide)
              have e9 : vs 9 = .pointer (some ⟨gx, 3, none⟩) := hv 9 (by decide)
              have e10 : vs 10 = .int .u64 (word : Int) := hv 10 (by decide)
              have e11 : vs 11 = .int .u64 (ld : Int) := hv 11 (by decide)
              have e12 : vs 12 = .bool false := hv 12 (by decide)
              simp only [putsFrom, Act.put, List.setIfInBounds_toArray, List.set_cons_succ, List.set_cons_zero, Nat.reduceAdd, e0, e1, e2, e3, e4, e5, e6, e7, e8, e9, e10, e11, e12]
              clear e0 e1 e2 e3 e4 e5 e6 e7 e8 e9 e10 e11 e12 hv
              have hPw : Pw w u g b g2 gx X A none 0 0 [] T T := hp
              have PS := Lib.hid hPw.pl
              clear hp hall hPw HLD HRLD PWS
              generalize u = W at *
              obtain ⟨m2, hTm⟩ : ∃ m2, T.length = m2 := ⟨_, rfl⟩
              have HTM := Lib.hid hTm
              have hm2 : m2 ≤ 1099511627776 := by omega
              obtain ⟨c9, hrow, hcel⟩ := PS.out.row
              rw [hTm] at hrow hl9
              have HCEL := Lib.hid hcel
              have HROW := Lib.hid hrow
              have HG2 := Lib.hid PS.out.rx.ltg
              clear hTm hcel hrow
              go_wp2_with (fail)
              have HSAME : Hid (∀ (u : World) (Ar : Option Addr) (cr : Nat), Cel u Ar (ev T) → Cel u A (ev T) → Calls Try.prog 12 #[.slice Ar m2 cr, .slice A m2 c9] u (Q (.bool true) u)) := Lib.hid (fun u Ar cr h1 h2 => by
                have := rsame_calls Ar A T T cr c9 u h1 h2 (by rw [HTM.out]; omega) (by rw [HTM.out]; omega)
                rw [rowsB_self, HTM.out] at this
                exact this)
              refine wp_region_phase (T := On) (ValsR [.pointer (some ⟨g, 0, none⟩), .int .i64 (m2 : Nat), .pointer (some ⟨g2, 0, none⟩), .pointer (some ⟨g2, 0, none⟩), .pointer (some ⟨g2, 0, none⟩), .slice A m2 c9, .int .i64 (m2 : Nat), .bool false, .bool false, .pointer (some ⟨g, 0, none⟩), undef, .pointer (some ⟨g2, 0, none⟩), .pointer (some ⟨g2, 0, none⟩), .pointer (some ⟨g2, 0, none⟩), .slice A m2 c9, .bool true, .bool false, .bool false] 10 (fun v x => ∃ Ar cr, v = .slice Ar m2 cr ∧ Cel x Ar (ev T))) (fun _ u => On W u) (by kernel_rfl) (by kernel_rfl) (by kernel_rfl) (fun i v x y h hT => ValsR.stable (T := On) (fun v x y h hT => by obtain ⟨Ar, cr, e, hc⟩ := h; exact ⟨Ar, cr, e, hc.below hT⟩) i v x y h hT) ((Below.refl W.heap.size W).drew) ?steps ?fin
              case steps =>
                refine ⟨?s0, ?s1, ?s2, ?s3, ?s4, ?s5, ?s6, ?s7, ?s8, ?s9, ?s10, ?s11, ?s12, ?s13, ?s14, ?s15, ?s16, ?s17, trivial⟩
                case s0 =>
                  intro Lb ac u hA hp hl hd
                  have q0 := ev_of (show ac.eval (.tmp 3) = .pointer (some ⟨g, 0, none⟩) from hA.eval 3 rfl)
                  refine ⟨rfl, StepOK.run (.pointer (some ⟨g, 0, none⟩)) ?_ ⟨ValsR.mk (by decide) rfl, hp⟩ (On.refl _)⟩
                  unfold execOp
                  simp [go_sem, q0]
                case s1 =>
                  intro Lb ac u hA hp hl hd
                  have r0 := (depP hd 0 87 rfl rfl).val (by decide)
                  have q0 := ev_of (show ac.eval (.tmp 87) = .pointer (some ⟨g, 0, none⟩) from r0)
                  refine ⟨rfl, StepOK.call 17 #[.pointer (some ⟨g, 0, none⟩)] ?_ ((len_calls (PS.out.ah.below hp)).mono ?_)⟩
                  · unfold execOp
                    simp [go_sem, q0]
                  · rintro e w2 ⟨rfl, rfl⟩
                    rw [HTM.out]
                    exact ⟨_, rfl, ⟨ValsR.mk (by decide) rfl, hp⟩, On.refl _⟩
                case s2 =>
                  intro Lb ac u hA hp hl hd
                  have q0 := ev_of (show ac.eval (.tmp 4) = .pointer (some ⟨g2, 0, none⟩) from hA.eval 4 rfl)
                  refine ⟨rfl, StepOK.run (.pointer (some ⟨g2, 0, none⟩)) ?_ ⟨ValsR.mk (by decide) rfl, hp⟩ (On.refl _)⟩
                  unfold execOp
                  simp [go_sem, q0]
                case s3 =>
                  intro Lb ac u hA hp hl hd
                  have r0 := (depP hd 2 89 rfl rfl).val (by decide)
                  have q0 := ev_of (show ac.eval (.tmp 89) = .pointer (some ⟨g2, 0, none⟩) from r0)
                  refine ⟨rfl, StepOK.run (.pointer (some ⟨g2, 0, none⟩)) ?_ ⟨ValsR.mk (by decide) rfl, hp⟩ (On.refl _)⟩
                  unfold execOp
                  simp [go_sem, q0]
                case s4 =>
                  intro Lb ac u hA hp hl hd
                  have r0 := (depP hd 3 90 rfl rfl).val (by decide)
                  have q0 := ev_of (show ac.eval (.tmp 90) = .pointer (some ⟨g2, 0, none⟩) from r0)
                  refine ⟨rfl, StepOK.run (.pointer (some ⟨g2, 0, none⟩)) ?_ ⟨ValsR.mk (by decide) rfl, hp⟩ (On.refl _)⟩
                  unfold execOp
                  simp [go_sem, q0]
                case s5 =>
                  intro Lb ac u hA hp hl hd
                  have r0 := (depP hd 4 91 rfl rfl).val (by decide)
                  have q0 := ev_of (show ac.eval (.tmp 91) = .pointer (some ⟨g2, 0, none⟩) from r0)
                  have y0 := ((show On W u from hp).cell (p := ⟨g2, 0, none⟩) HG2.out).trans HROW.out
                  refine ⟨rfl, StepOK.run (.slice A m2 c9) ?_ ⟨ValsR.mk (by decide) rfl, hp⟩ (On.refl _)⟩
                  unfold execOp
                  simp [go_sem, q0, y0]
                case s6 =>
                  intro Lb ac u hA hp hl hd
                  have r0 := (depP hd 5 92 rfl rfl).val (by decide)
                  have q0 := ev_of (show ac.eval (.tmp 92) = .slice A m2 c9 from r0)
                  refine ⟨rfl, StepOK.run (.int .i64 (m2 : Nat)) ?_ ⟨ValsR.mk (by decide) rfl, hp⟩ (On.refl _)⟩
                  unfold execOp
                  simp [go_sem, q0]
                case s7 =>
                  intro Lb ac u hA hp hl hd
                  have r0 := (depP hd 1 88 rfl rfl).val (by decide)
                  have q0 := ev_of (show ac.eval (.tmp 88) = .int .i64 (m2 : Nat) from r0)
                  have r1 := (depP hd 6 93 rfl rfl).val (by decide)
                  have q1 := ev_of (show ac.eval (.tmp 93) = .int .i64 (m2 : Nat) from r1)
                  refine ⟨rfl, StepOK.run (.bool false) ?_ ⟨ValsR.mk (by decide) rfl, hp⟩ (On.refl _)⟩
                  unfold execOp
                  simp [go_sem, q0, q1]
                case s8 =>
                  intro Lb ac u hA hp hl hd
                  have r0 := (depP hd 7 94 rfl rfl).val (by decide)
                  have q0 := ev_of (show ac.eval (.tmp 94) = .bool false from r0)
                  refine ⟨rfl, StepOK.run (.bool false) ?_ ⟨ValsR.mk (by decide) rfl, hp⟩ (On.refl _)⟩
                  unfold execOp
                  simp [go_sem, q0]
                case s9 =>
                  intro Lb ac u hA hp hl hd
                  have q0 := ev_of (show ac.eval (.tmp 3) = .pointer (some ⟨g, 0, none⟩) from hA.eval 3 rfl)
                  have rg := (depP hd 8 95 rfl rfl).val (by decide)
                  have qg : ac.eval (.tmp 95) = .bool false := rg
                  refine ⟨(wanted_of rfl rfl qg).trans rfl, StepOK.run (.pointer (some ⟨g, 0, none⟩)) ?_ ⟨ValsR.mk (by decide) rfl, hp⟩ (On.refl _)⟩
                  unfold execOp
                  simp [go_sem, q0]
                case s10 =>
                  intro Lb ac u hA hp hl hd
                  have r0 := (depP hd 9 96 rfl rfl).val (by decide)
                  have q0 := ev_of (show ac.eval (.tmp 96) = .pointer (some ⟨g, 0, none⟩) from r0)
                  have rg := (depP hd 8 95 rfl rfl).val (by decide)
                  have qg : ac.eval (.tmp 95) = .bool false := rg
                  refine ⟨(wanted_of rfl rfl qg).trans rfl, StepOK.call 18 #[.pointer (some ⟨g, 0, none⟩)] ?_ ((list_calls (PS.out.ah.below hp) (by rw [HTM.out]; exact hm2)).mono ?_)⟩
                  · unfold execOp
                    simp [go_sem, q0]
                  · rintro e w2 ⟨Ar, cr, rfl, hM, hb⟩
                    rw [HTM.out] at hM ⊢
                    exact ⟨_, rfl, ⟨ValsR.at ⟨Ar, cr, rfl, hM.cel⟩, On.trans (show On W u from hp) hb⟩, hb⟩
                case s11 =>
                  intro Lb ac u hA hp hl hd
                  have q0 := ev_of (show ac.eval (.tmp 4) = .pointer (some ⟨g2, 0, none⟩) from hA.eval 4 rfl)
                  have rg := (depP hd 8 95 rfl rfl).val (by decide)
                  have qg : ac.eval (.tmp 95) = .bool false := rg
                  refine ⟨(wanted_of rfl rfl qg).trans rfl, StepOK.run (.pointer (some ⟨g2, 0, none⟩)) ?_ ⟨ValsR.mk (by decide) rfl, hp⟩ (On.refl _)⟩
                  unfold execOp
                  simp [go_sem, q0]
                case s12 =>
                  intro Lb ac u hA hp hl hd
                  have r0 := (depP hd 11 98 rfl rfl).val (by decide)
                  have q0 := ev_of (show ac.eval (.tmp 98) = .pointer (some ⟨g2, 0, none⟩) from r0)
                  have rg := (depP hd 8 95 rfl rfl).val (by decide)
                  have qg : ac.eval (.tmp 95) = .bool false := rg
                  refine ⟨(wanted_of rfl rfl qg).trans rfl, StepOK.run (.pointer (some ⟨g2, 0, none⟩)) ?_ ⟨ValsR.mk (by decide) rfl, hp⟩ (On.refl _)⟩
                  unfold execOp
                  simp [go_sem, q0]
                case s13 =>
                  intro Lb ac u hA hp hl hd
                  have r0 := (depP hd 12 99 rfl rfl).val (by decide)
                  have q0 := ev_of (show ac.eval (.tmp 99) = .pointer (some ⟨g2, 0, none⟩) from r0)
                  have rg := (depP hd 8 95 rfl rfl).val (by decide)
                  have qg : ac.eval (.tmp 95) = .bool false := rg
                  refine ⟨(wanted_of rfl rfl qg).trans rfl, StepOK.run (.pointer (some ⟨g2, 0, none⟩)) ?_ ⟨ValsR.mk (by decide) rfl, hp⟩ (On.refl _)⟩
                  unfold execOp
                  simp [go_sem, q0]
                case s14 =>
                  intro Lb ac u hA hp hl hd
                  have r0 := (depP hd 13 100 rfl rfl).val (by decide)
                  have q0 := ev_of (show ac.eval (.tmp 100) = .pointer (some ⟨g2, 0, none⟩) from r0)
                  have rg := (depP hd 8 95 rfl rfl).val (by decide)
                  have qg : ac.eval (.tmp 95) = .bool false := rg
                  have y0 := ((show On W u from hp).cell (p := ⟨g2, 0, none⟩) HG2.out).trans HROW.out
                  refine ⟨(wanted_of rfl rfl qg).trans rfl, StepOK.run (.slice A m2 c9) ?_ ⟨ValsR.mk (by decide) rfl, hp⟩ (On.refl _)⟩
                  unfold execOp
                  simp [go_sem, q0, y0]
                case s15 =>
                  intro Lb ac u hA hp hl hd
                  have r0 := (depP hd 14 101 rfl rfl).val (by decide)
                  have q0 := ev_of (show ac.eval (.tmp 101) = .slice A m2 c9 from r0)
                  obtain ⟨Ar, cr, er, hcr⟩ := (depP hd 10 97 rfl rfl).row
                  have qr := ev_of er
                  have rg := (depP hd 8 95 rfl rfl).val (by decide)
                  have qg : ac.eval (.tmp 95) = .bool false := rg
                  refine ⟨(wanted_of rfl rfl qg).trans rfl, StepOK.call 12 #[.slice Ar m2 cr, .slice A m2 c9] ?_ ((HSAME.out u Ar cr hcr (HCEL.out.below hp)).mono ?_)⟩
                  · unfold execOp
                    simp [go_sem, q0, qr]
                  · rintro e w2 ⟨rfl, q, rfl⟩
                    exact ⟨_, rfl, ⟨ValsR.mk (by decide) rfl, On.trans (show On W u from hp) (below_drewN (Below.refl _ _) q)⟩, below_drewN (Below.refl _ _) q⟩
                case s16 =>
                  intro Lb ac u hA hp hl hd
                  have r0 := (depP hd 15 102 rfl rfl).val (by decide)
                  have q0 := ev_of (show ac.eval (.tmp 102) = .bool true from r0)
                  have rg := (depP hd 8 95 rfl rfl).val (by decide)
                  have qg : ac.eval (.tmp 95) = .bool false := rg
                  refine ⟨(wanted_of rfl rfl qg).trans rfl, StepOK.run (.bool false) ?_ ⟨ValsR.mk (by decide) rfl, hp⟩ (On.refl _)⟩
                  unfold execOp
                  simp [go_sem, q0]
                case s17 =>
                  intro Lb ac u hA hp hl hd
                  have r0 := (depP hd 8 95 rfl rfl).val (by decide)
                  have q0 := ev_of (show ac.eval (.tmp 95) = .bool false from r0)
                  have r1 := (depP hd 16 103 rfl rfl).val (by decide)
                  have q1 := ev_of (show ac.eval (.tmp 103) = .bool false from r1)
                  refine ⟨rfl, StepOK.run (.bool false) ?_ ⟨ValsR.mk (by decide) rfl, hp⟩ (On.refl _)⟩
                  unfold execOp
                  simp [go_sem, q0, q1]
              case fin =>
                intro Lb vs u hp hv hall
                have e0 : vs 0 = .pointer (some ⟨g, 0, none⟩) := (hv 0 (by decide)).val (by decide)
                have e1 : vs 1 = .int .i64 (m2 : Nat) := (hv 1 (by decide)).val (by decide)
                have e2 : vs 2 = .pointer (some ⟨g2, 0, none⟩) := (hv 2 (by decide)).val (by decide)
                have e3 : vs 3 = .pointer (some ⟨g2, 0, none⟩) := (hv 3 (by decide)).val (by decide)
                have e4 : vs 4 = .pointer (some ⟨g2, 0, none⟩) := (hv 4 (by decide)).val (by decide)
                have e5 : vs 5 = .slice A m2 c9 := (hv 5 (by decide)).val (by decide)
                have e6 : vs 6 = .int .i64 (m2 : Nat) := (hv 6 (by decide)).val (by decide)
                have e7 : vs 7 = .bool false := (hv 7 (by decide)).val (by decide)
                have e8 : vs 8 = .bool false := (hv 8 (by decide)).val (by decide)
                have e9 : vs 9 = .pointer (some ⟨g, 0, none⟩) := (hv 9 (by decide)).val (by decide)
                obtain ⟨Ar9, cr9, e10, _⟩ := (hv 10 (by decide)).row
                have e11 : vs 11 = .pointer (some ⟨g2, 0, none⟩) := (hv 11 (by decide)).val (by decide)
                have e12 : vs 12 = .pointer (some ⟨g2, 0, none⟩) := (hv 12 (by decide)).val (by decide)
                have e13 : vs 13 = .pointer (some ⟨g2, 0, none⟩) := (hv 13 (by decide)).val (by decide)
                have e14 : vs 14 = .slice A m2 c9 := (hv 14 (by decide)).val (by decide)
                have e15 : vs 15 = .bool true := (hv 15 (by decide)).val (by decide)
                have e16 : vs 16 = .bool false := (hv 16 (by decide)).val (by decide)
                have e17 : vs 17 = .bool false := (hv 17 (by decide)).val (by decide)
                simp only [putsFrom, Act.put, List.setIfInBounds_toArray, List.set_cons_succ, List.set_cons_zero, Nat.reduceAdd, e0, e1, e2, e3, e4, e5, e6, e7, e8, e9, e10, e11, e12, e13, e14, e15, e16, e17]
                clear e0 e1 e2 e3 e4 e5 e6 e7 e8 e9 e10 e11 e12 e13 e14 e15 e16 e17 hv
                have HPn := Lib.hid (PS.out.below hp)
                clear hp hall HSAME HCEL HROW
                go_wp2_with (fail)
                go_roundw
                case rel => exact ⟨k + 1, T, A, by go_num, by omega, by rw [HTM.out]; exact hl9, HPn⟩
                case measure => simp [intOf]; omega
      · obtain rfl : N = k := by omega
        go_wp2_with (fail)
        refine (alive_calls _).mono ?_
        rintro e w' ⟨rfl, hb⟩
        replace hb := Lib.hid hb
        go_wp2_with (fail)
        go_ret
        exact ⟨rfl, hS.out.on.trans (hb.out.mono hS.out.on.size)⟩
end Go.Proofs.Ytphjppnkackmmaa
