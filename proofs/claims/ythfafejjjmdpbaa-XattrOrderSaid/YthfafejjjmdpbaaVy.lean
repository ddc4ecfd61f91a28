/- Keys: the program's, and the document's. -/
import Derived.Test.YthfafejjjmdpbaaVf
set_option linter.unusedSimpArgs false
set_option linter.unusedVariables false
namespace Go.Proofs.Ythfafejjjmdpbaa
open Go.RowKit Go.Lib
/-- The keys, as cells. -/
def kv (L : List Xt) : List Value := L.map fun p => .string p.key
theorem kv_length (L : List Xt) : (kv L).length = L.length := List.length_map _
theorem kv_append (L M : List Xt) : kv (L ++ M) = kv L ++ kv M := List.map_append
theorem kv_get {L : List Xt} {k : Nat} {p : Xt} (h : L[k]? = some p) : (kv L)[k]? = some (.string p.key) := by unfold kv; rw [List.getElem?_map, h]; rfl
theorem kv_one (L : List Xt) : ∀ u ∈ kv L, u.oneCell' = true := fun u hu => by
  unfold kv at hu
  obtain ⟨p, _, rfl⟩ := List.mem_map.1 hu
  rfl
theorem string_info : (Try.prog.info? 9).map (fun i => (i.zero, i.size, i.bytes)) = some (some (.string ⟨#[]⟩), 1, 16) := by kernel_rfl
/-- The row so far. -/
def kvp (L : List Xt) (k n : Nat) : List Value := kv (L.take k) ++ List.replicate (n - k) (.string ⟨#[]⟩)
theorem kvp_zero (L : List Xt) (n : Nat) : kvp L 0 n = List.replicate n (.string ⟨#[]⟩) := by simp [kvp, kv]
theorem kvp_all {L : List Xt} {n : Nat} (h : L.length = n) : kvp L n n = kv L := by simp [kvp, ← h]
theorem kvp_length {L : List Xt} {k n : Nat} (h : L.length = n) (hk : k ≤ n) : (kvp L k n).length = n := by
  unfold kvp
  rw [List.length_append, kv_length, List.length_take, List.length_replicate]
  omega
theorem kvp_set {L : List Xt} {k n : Nat} {p : Xt} (h : L.length = n) (hp : L[k]? = some p) : (kvp L k n).set k (.string p.key) = kvp L (k + 1) n := by
  have hk : k < L.length := (List.getElem?_eq_some_iff.1 hp).1
  unfold kvp
  have e1 : n - k = (n - (k + 1)) + 1 := by omega
  have e2 : L.take (k + 1) = L.take k ++ [p] := by rw [List.take_add_one, hp]; rfl
  have e3 : (kv (L.take k)).length = k := by rw [kv_length, List.length_take]; omega
  rw [e1, List.replicate_succ, e2, kv_append, List.set_append_right _ _ (by omega), e3, Nat.sub_self, List.set_cons_zero]
  simp [kv]
theorem made_keys (n : Nat) : madeCells #[Value.string ⟨#[]⟩] n = (List.replicate n (Value.string ⟨#[]⟩)).toArray := by
  apply Array.ext
  · simp [madeCells]
  · intro i h1 h2
    simp [madeCells, Nat.mod_one]
/-- A row of the call's own that holds these. -/
def Ky (w : World) (g : Nat) (xs : List Value) : Prop := w.heap[g]? = some (.cells xs.toArray 9 (0, 0))
theorem Ky.new (w : World) (L : List Xt) (n : Nat) : Ky (w.alloc (.cells (madeCells #[.string ⟨#[]⟩] n) 9)) w.heap.size (kvp L 0 n) := by
  unfold Ky
  rw [made_keys, kvp_zero]
  exact heap_alloc_new w _
section
variable {w w' : World} {g : Nat} {xs : List Value}
theorem Ky.lt (h : Ky w g xs) : g < w.heap.size := lt_of_cells h
theorem Ky.frozen (h : Ky w g xs) (k : Nat) : w.frozen? ⟨g, k, none⟩ = false := by
  unfold Ky at h
  simp [World.frozen?, h]
theorem Ky.some (h : Ky w g xs) {k : Nat} {u : Value} (hu : xs[k]? = .some u) : w.cell? ⟨g, k, none⟩ = .some u := by
  rw [cell_of_row w g k _ 9 (0, 0) h]
  simpa using hu
theorem Ky.on (h : Ky w g xs) (hb : Below w.heap.size w w') : Ky w' g xs := (hb.block g h.lt).trans h
theorem Ky.set (h : Ky w g xs) (k : Nat) (u : Value) : Ky (w.setCell ⟨g, k, none⟩ u) g (xs.set k u) := by
  unfold Ky at h ⊢
  simp [World.setCell, Array.getElem?_modify, h]
theorem Ky.cel (h : Ky w g xs) : Cel w (.some ⟨g, 0, none⟩) xs := fun _ => ⟨_, rfl, h.lt, fun j u hu => by rw [add_zero_block]; exact h.some hu⟩
end
/-- The keys of a list that may be. -/
def keysR (L : List Xt) : List Xt := if xsB L = true then L else []
set_option maxRecDepth 100000 in
set_option maxHeartbeats 2000000 in
theorem keys_calls (A : Option Addr) (L : List Xt) (c : Nat) (w : World) (hc : Cel w A (xv L)) (hl : L.length ≤ 1099511627776) :
    Calls Try.prog 18 #[.slice A L.length c] w fun e w' => ∃ B d, e = .returned (.tuple #[.slice B (keysR L).length d, .int .i64 (chN L)]) ∧ Hid (Cel w' B (kv (keysR L))) ∧ Below w.heap.size w w' := by
  have cC := xcheck_calls A L c w hc hl
  obtain ⟨n, hn⟩ : ∃ n, L.length = n := ⟨_, rfl⟩
  have HN := Lib.hid hn
  have HC := Lib.hid hc
  clear hc
  cases hx : xsB L
  case false =>
    have e1 : keysR L = [] := by unfold keysR; rw [if_neg (by rw [hx]; decide)]
    have e : chN L = 622 := by unfold chN; rw [if_pos hx]
    rw [e] at cC ⊢
    rw [e1]
    rw [hn] at cC ⊢
    have CC := Lib.hid cC
    clear hn cC hx e hl e1
    go_enter Try.func18, Try.ntmps18
    go_wp2_with (fail)
    refine CC.out.mono ?_
    rintro e w1 ⟨rfl, hb1⟩
    have HB := Lib.hid hb1
    clear hb1
    go_wp2_with (fail)
    go_ret2
    exact ⟨none, 0, rfl, Lib.hid (Cel.nil _ _), HB.out⟩
  case true =>
    have e1 : keysR L = L := by unfold keysR; rw [if_pos hx]
    have e : chN L = 0 := by unfold chN; rw [if_neg (by rw [hx]; decide)]
    rw [e] at cC ⊢
    rw [e1]
    rw [hn] at cC hl ⊢
    have CC := Lib.hid cC
    clear hn cC hx e e1
    have hmk : ∀ W : World, (Instr.makeSlice 34 (.int .i64 n) (.int .i64 n)).run Try.prog W = .ok (.slice (some ⟨W.heap.size, 0, none⟩) n n) (W.alloc (.cells (madeCells #[.string ⟨#[]⟩] n) 9)) := fun W => run_make_row' (P := Try.prog) 34 9 (.string ⟨#[]⟩) 16 Try.underlying34 string_info rfl .i64 .i64 n (by omega) (by omega) W
    go_enter Try.func18, Try.ntmps18
    go_wp2_with (fail)
    refine CC.out.mono ?_
    rintro e w1 ⟨rfl, hb1⟩
    have HB := Lib.hid hb1
    clear hb1
    have HK := Lib.hid (Ky.new w1 L n)
    go_wp2_with (fail)
    have bA : Below w1.heap.size w1 (w1.alloc (.cells (madeCells #[.string ⟨#[]⟩] n) 9)) := (Below.refl _ _).alloc (Nat.le_refl _) _
    have HBA := Lib.hid (HB.out.trans (bA.mono HB.out.size))
    have hgw : w.heap.size ≤ w1.heap.size := HB.out.size
    generalize w1.heap.size = g at *
    generalize w1.alloc (.cells (madeCells #[.string ⟨#[]⟩] n) 9) = W at *
    clear bA hmk
    go_loopw [18] (fun i wr => ∃ k : Nat, i = .int .i64 k ∧ k ≤ n ∧ Hid (Ky wr g (kvp L k n)) ∧ Hid (Below w.heap.size w wr)) (fun i _ => n - (intOf i).toNat)
    case atStart => exact ⟨0, rfl, by omega, HK, HBA⟩
    case round =>
      obtain ⟨k, rfl, hk, HR, HW⟩ := hrel
      by_cases hkn : k < n
      · obtain ⟨b, o, rfl, hbl, hcell⟩ := (HC.out.below HW.out).xt (by rw [HN.out]; omega)
        obtain ⟨p, hp⟩ : ∃ p, L[k]? = some p := ⟨_, List.getElem?_eq_getElem (by rw [HN.out]; omega)⟩
        obtain ⟨f1, f2⟩ := hcell k p hp
        have HP := Lib.hid hp
        clear hcell hp
        go_upto_region 8 with (fail)
        have bV : Below wr.heap.size wr (wr.alloc (.cells #[.string p.key, .string p.val] 42)) := (Below.refl _ _).alloc (Nat.le_refl _) _
        have HWV := Lib.hid (HW.out.trans (bV.mono HW.out.size))
        have HRV := Lib.hid (HR.out.on bV)
        obtain ⟨y0, y1⟩ := two_cells (w0 := wr.alloc (.cells #[.string p.key, .string p.val] 42)) (B := wr.heap.size) (x := .string p.key) (y := .string p.val) (t := 42) (heap_alloc_new _ _)
        generalize wr.alloc (.cells #[.string p.key, .string p.val] 42) = V at *
        have hlen := kvp_length (k := k) HN.out hk
        obtain ⟨u, hu⟩ : ∃ u, (kvp L k n)[k]? = some u := ⟨_, List.getElem?_eq_getElem (by rw [hlen]; exact hkn)⟩
        have z0 := HRV.out.some hu
        have z1 := HRV.out.frozen k
        have HS := Lib.hid (HRV.out.set k (.string p.key))
        have HE := Lib.hid (kvp_set HN.out HP.out)
        generalize p.key = pk at *
        generalize p.val = pv at *
        clear bV hlen hu f1 f2
        go_wp2_with (fail)
        go_roundw
        case rel => exact ⟨k + 1, by go_num, by omega, Lib.hid (by rw [← HE.out]; exact HS.out), Lib.hid (HWV.out.setCell hgw _)⟩
        case measure => simp [intOf]; omega
      · obtain rfl : k = n := by omega
        go_wp2_with (fail)
        go_ret2
        exact ⟨some ⟨g, 0, none⟩, k, rfl, Lib.hid (by have := HR.out.cel; rw [kvp_all HN.out] at this; exact this), HW.out⟩
end Go.Proofs.Ythfafejjjmdpbaa
