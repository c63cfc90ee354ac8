/- Parts of a proof, one behind the other: SN0 SN1 SN2 SN3 SN4. No condition. -/
import Derived.Test.YtjhmlagkjpcjnaaGA
import Derived.Shelf.Spec.SlicesInsertGrow
section
set_option linter.unusedVariables false
set_option linter.unusedSimpArgs false
set_option maxRecDepth 100000
namespace Go.Proofs.Ytjhmlagkjpcjnaa
open Go Reck Ost
def insRen : Go.Shelf.Ren := ⟨fun f => match f with
  | 21 => 51
  | 27 => 60
  | 28 => 61
  | 35 => 67
  | 39 => 72
  | f => f, fun t => match t with
  | 0 => 0
  | 3 => 3
  | 4 => 4
  | 22 => 25
  | t => t, fun g => g⟩
theorem insLays : Lays2.n21 Try.prog insRen := by
  apply Lays2.n21.mk
  all_goals (first | (intro w; kernel_rfl) | kernel_rfl)
def U.ins (A : List Int) (i v : Int) : List Int := A.take i.toNat ++ [v] ++ A.drop i.toNat
theorem ins_get (A : List Int) (i v : Int) (hi : 0 ≤ i ∧ i ≤ A.length) (j : Nat) : (U.ins A i v)[j]? = if j < i.toNat then A[j]? else if j = i.toNat then some v else A[j - 1]? := by
  have hl : (A.take i.toNat).length = i.toNat := by rw [List.length_take]; omega
  unfold U.ins
  rw [List.append_assoc]
  by_cases h1 : j < i.toNat
  · rw [if_pos h1, List.getElem?_append_left (by omega), List.getElem?_take, if_pos h1]
  · rw [if_neg h1, List.getElem?_append_right (by omega), hl]
    by_cases h2 : j = i.toNat
    · rw [if_pos h2, h2, Nat.sub_self]; rfl
    · rw [if_neg h2, show j - i.toNat = (j - i.toNat - 1) + 1 by omega]
      show (A.drop i.toNat)[j - i.toNat - 1]? = _
      rw [List.getElem?_drop]; congr 1; omega
theorem ins_len (A : List Int) (i v : Int) (hi : 0 ≤ i ∧ i ≤ A.length) : (U.ins A i v).length = A.length + 1 := by
  unfold U.ins
  rw [List.length_append, List.length_append, List.length_take, List.length_drop]
  simp; omega
theorem setCells_row {w : World} {g o : Nat} {cur : Array Value} {t : TypeId} {fz : Nat × Nat} {vs : List Value} (hg : w.heap[g]? = some (.cells cur t fz)) (hfz : fz = (0, 0) ∨ cur.size ≤ fz.1) (hl : o + vs.length ≤ cur.size) (h1 : ∀ v ∈ vs, v.oneCell' = true) :
    w.setCells g o vs = w.setRow g (cur.toList.take o ++ vs ++ cur.toList.drop (o + vs.length)).toArray := by
  have a := run_storeCells_fz Try.prog g o t fz vs 0 cur w hg hfz (by omega) h1
  have b := run_storeCells_cells (P := Try.prog) g o vs 0 w (fun j hj => by
    have hc : w.cell? ⟨g, o + j, none⟩ = some (cur[o + j]'(by omega)) := by
      have : o + j < cur.size := by omega
      simp [World.cell?, hg, this]
    rw [Nat.add_zero, hc]; rfl) (fun j hj => by
    rw [Nat.add_zero]
    rcases hfz with rfl | hz
    · simp [World.frozen?, hg]
    · simp [World.frozen?, hg]; omega) h1
  rw [a] at b
  simp only [Result.ok.injEq, true_and, Nat.add_zero] at b
  exact b.symm
theorem capM (w : World) (need old : Nat) (e : TypeId) (h : need ≤ 1000001) : grownCap w need old e ≤ 9223372036854775807 := by
  have h1 : (1000001 : Nat) ≤ maxLen := by decide
  have h2 : maxLen ≤ 9223372036854775807 := by decide
  exact Nat.le_trans (grownCap_le_maxLen w need old e (by omega)) h2
theorem threes {e : Env} {x y z : AV} {vs : List Value} (h : [x, y, z].map (Reck.av e) = vs.map some) : ∃ a b c, vs = [a, b, c] ∧ Reck.av e x = some a ∧ Reck.av e y = some b ∧ Reck.av e z = some c := by
  match vs, map_len h with
  | [a, b, c], _ => simp at h; exact ⟨a, b, c, rfl, h.1, h.2.1, h.2.2⟩
def vBk (v : Int) : Option Blk := some ⟨3, [xintC .i64 v], none, 1, false⟩
def pIns : Pat := fun args σ => match args, σ with
  | [s, i, .inl (.inl (.inr (.inr (.inl ⟨0, 0, 1, none, 1⟩))))], ⟨[some ⟨3, [v], none, 1, false⟩], [], 0, [some ⟨3, .n .i64, L, cap, false⟩], 0⟩ => match aslX s, intX i, xiX (cell v) with
    | some ⟨0, o, n, c⟩, some (.i64, i), some (.i64, v) => some fun K => ∃ A, (U.Rg L o n c cap A ∧ (0 ≤ i ∧ i ≤ n) ∧ n ≤ 1000000 ∧ c ≤ 9223372036854775807) ∧ ∀ (L' : List Int) (n' c' : Nat), n' = n + 1 → c' ≤ 9223372036854775807 → U.Rg L' 0 n' c' c' (U.ins A i v) → K (cell (aslC ⟨1, 0, n', c'⟩)) ⟨[vBk v], [], 0, [none, some (ib L' c' false)], 0⟩
    | _, _, _ => none
  | _, _ => none
theorem pIns_ok : PatOk 51 pIns := by
  intro tm σ C h K hK w0 e w hk vs hvs
  unfold pIns at h
  split at h
  · rename_i s0 i0 v0 L cap
    split at h
    · rename_i o n c i v hs hi hv
      obtain rfl := aslX_eq hs
      obtain rfl := cell_inj (xiX_eq hv)
      simp only [Option.some.injEq] at h; subst h
      obtain ⟨A, ⟨hA, hi0, hn, hcm⟩, hK⟩ := hK
      obtain ⟨sv, iv, vv, rfl, h1, h2, h3⟩ := threes hvs
      obtain rfl := intX_ok hi h2
      obtain ⟨q, c1, hq, hcc, hn1, rfl⟩ := av_sl h3
      obtain ⟨hdl, hdf, hdst, base, c', rfl, hnc, hmem⟩ := destX_ok (P := Try.prog) (k := .i64) (el := 3) (d := ⟨n, (L.drop o).take n, o + n ≤ L.length ∧ o + c ≤ cap, _⟩) hk rfl ⟨hA.len, hA.cap⟩ h1
      dsimp only at hdl hdf hdst hnc hmem
      have hcc' : c' ≤ 9223372036854775807 := by
        rcases aslX_ok (x := cell (aslC ⟨0, o, n, c⟩)) rfl h1 with ⟨A', _, _, hc0, he⟩ | ⟨q', _, _, he⟩
        · have := (Value.slice.inj he).2.2; omega
        · have := (Value.slice.inj he).2.2; try dsimp only at this
          omega
      have hAl := hA.n
      have hAe := hA.eq
      rw [← hAe] at hdl hdf hmem
      obtain ⟨k1, bcur, bfz, k2, k3, ⟨kn, k4, k5⟩, k6, k7, k8⟩ := hk.blk 0 _ q rfl hq
      have hbfz := k7 rfl
      subst hbfz
      obtain ⟨bv, e1, e2⟩ := k3 0 _ rfl
      have e1 : Value.int .i64 v = bv := by simpa [xintC, Reck.cv] using e1
      subst e1
      rw [Nat.add_zero] at e2
      have hbl : q.2 < bcur.size := (Array.getElem?_eq_some_iff.1 e2).1
      have hvs1 : ∀ (j : Nat) (u : Value), ([Value.int .i64 v] : List Value)[j]? = some u → w.cell? ⟨q.1, q.2 + 0 + j, none⟩ = some u := by
        intro j u hu
        cases j with
        | zero => simp at hu; subst hu; simp [World.cell?, k2, e2]
        | succ j => simp at hu
      have h1v : ∀ u ∈ ([Value.int .i64 v] : List Value), u.oneCell' = true := by intro u hu; simp at hu; subst hu; rfl
      have h1c : ∀ u ∈ A.map (Value.int .i64), u.oneCell' = true := by intro u hu; obtain ⟨z, _, rfl⟩ := List.mem_map.1 hu; rfl
      obtain ⟨j, rfl⟩ : ∃ j : Nat, i = j := ⟨i.toNat, by omega⟩
      have hlen := hdst.arrs.len
      have hin : (0 : Int) ≤ (j : Int) ∧ (j : Int) ≤ A.length := by omega
      have fin : ∀ (w' : World) (g o' c2 : Nat), n + 1 ≤ c2 → c2 ≤ 9223372036854775807 → Ok w0 e (setArr (⟨[vBk v], [], 0, [some (ib L cap false)], 0⟩ : St) 0 none) w' → AOk w0 w' e ⟨3, .n .i64, U.ins A j v, c2, false⟩ (.inr (g, o')) →
          ((∀ (b : Nat) y q', (setArr (⟨[vBk v], [], 0, [some (ib L cap false)], 0⟩ : St) 0 none).heap[b]? = some (some y) → e.blk[b]? = some q' → q'.1 ≠ g) ∧ ∀ (b : Nat) y q', (setArr (⟨[vBk v], [], 0, [some (ib L cap false)], 0⟩ : St) 0 none).arrs[b]? = some (some y) → y.ro = false → e.arr[b]? = some (.inr q') → q'.1 ≠ g) →
          ∃ x σ' e' u, Ending.returned (.slice (some ⟨g, o', none⟩) (n + 1) c2) = .returned u ∧ e.le e' ∧ Reck.av e' x = some u ∧ Ok w0 e' σ' w' ∧ K x σ' := by
        intro w' g o' c2 hc2 hc3 hok hAO hdis
        refine ⟨cell (aslC ⟨1, 0, n + 1, c2⟩), addArr (setArr (⟨[vBk v], [], 0, [some (ib L cap false)], 0⟩ : St) 0 none) ⟨3, .n .i64, U.ins A j v, c2, false⟩, ⟨e.blk, e.int, e.opq, e.arr ++ [.inr (g, o')], e.S, e.junk⟩, _, rfl, le_arr e _, ?_, hok.arrAdd hAO rfl (by rintro p hp; simp at hp; subst hp; exact hdis), hK _ (n + 1) c2 rfl hc3 (U.Rg.all (by rw [ins_len A _ _ hin]; omega) hc2 (Nat.le_refl _) (by omega))⟩
        have hl1 : e.arr.length = 1 := hlen
        exact asl_av (s := ⟨1, 0, n + 1, c2⟩) (q := (g, o')) (by simp [hl1]) hc2
      have kA := hA.n
      have hget := ins_get A j v hin
      have hjn : (j : Int).toNat = j := by omega
      rw [hjn] at hget
      have hsh : w.shape? q.1 = some (3, bcur.size) := by simp [World.shape?, k2]
      have hf1 : w.frozen? ⟨q.1, q.2 + 0, none⟩ = false := by simp [World.frozen?, k2]
      have hf2 : w.frozen? ⟨q.1, bcur.size, none⟩ = false := by simp [World.frozen?, k2]
      have newDis : ((∀ (b : Nat) y q', (setArr (⟨[vBk v], [], 0, [some (ib L cap false)], 0⟩ : St) 0 none).heap[b]? = some (some y) → e.blk[b]? = some q' → q'.1 ≠ w.heap.size) ∧ ∀ (b : Nat) y q', (setArr (⟨[vBk v], [], 0, [some (ib L cap false)], 0⟩ : St) 0 none).arrs[b]? = some (some y) → y.ro = false → e.arr[b]? = some (.inr q') → q'.1 ≠ w.heap.size) := by
        refine ⟨fun b y q' k1 k2 => ?_, fun b y q' k1 k2 k3 => ?_⟩
        · have := (hdst.blk b y q' k1 k2).lt; omega
        · have := (hdst.arrs.ok b y _ k1 k3).lt; omega
      rcases Nat.lt_or_ge j n with hj | hj
      · -- ahead of one
        obtain ⟨n1, n2⟩ | ⟨g, ob, cur, fz, rfl, g1, hfz, g2, g3, g4, g5, g6, g7, g8⟩ := hmem
        · omega
        by_cases hroom : n + 1 ≤ c'
        · have hcell : ∀ m (hm : m < c'), w.cell? ⟨g, ob + m, none⟩ = some (cur[ob + m]'(by omega)) := fun m hm => by
            have : ob + m < cur.size := by omega
            simp [World.cell?, g1, this]
          have hfr : ∀ m, m < c' → w.frozen? ⟨g, ob + m, none⟩ = false := fun m hm => by
            have : ob + m < cur.size := by omega
            rcases hfz with rfl | hz
            · simp [World.frozen?, g1]
            · simp [World.frozen?, g1]; omega
          have hcs : ∀ (m : Nat) u, (A.map (Value.int .i64))[m]? = some u → w.cell? ⟨g, ob + m, none⟩ = some u := fun m u hu => by
            rw [List.getElem?_map] at hu
            cases hz : A[m]? with
            | none => rw [hz] at hu; cases hu
            | some z =>
              rw [hz] at hu
              simp only [Option.map_some, Option.some.injEq] at hu; subst hu
              have := g2 m z hz
              simp [World.cell?, g1, this]
          have hsg : w.shape? g = some (3, cur.size) := by simp [World.shape?, g1]
          refine (Any2.slices_Insert_int_shift insLays g ob n c' j q.1 (q.2 + 0) 1 c1 (A.map (Value.int .i64)) [Value.int .i64 v] w hj (by decide) hroom hcc' (g7 0 _ q rfl hq) (by simp [kA]) rfl hcs (fun m hm => by rw [hcell m (by omega)]; rfl) (fun m hm => hfr m (by omega)) hvs1 h1c h1v 3 3 bcur.size cur.size hsh hsg (by omega) hf1 hf2).mono ?_
          rintro en w' ⟨rfl, rfl⟩
          have hdl : ((A.map (Value.int .i64)).drop j).length = n - j := by rw [List.length_drop, List.length_map]; omega
          have h1d : ∀ u ∈ (A.map (Value.int .i64)).drop j, u.oneCell' = true := fun u hu => h1c u (List.mem_of_mem_drop hu)
          have gd : w.drew.heap[g]? = some (.cells cur 3 fz) := g1
          rw [setCells_row gd hfz (by rw [hdl]; omega) h1d]
          obtain ⟨row1, hrow1⟩ : ∃ r, r = (cur.toList.take (ob + (j + 1)) ++ (A.map (Value.int .i64)).drop j ++ cur.toList.drop (ob + (j + 1) + ((A.map (Value.int .i64)).drop j).length)).toArray := ⟨_, rfl⟩
          have hs1 : row1.size = cur.size := by rw [hrow1]; simp only [List.size_toArray, List.length_append, List.length_take, List.length_drop, Array.length_toList, List.length_map]; omega
          have gr1 := setRow_heap w.drew g cur row1 _ _ gd
          rw [← hrow1, setCells_row gr1 (hfz.imp id (fun h => by omega)) (by rw [hs1]; simp; omega) h1v]
          obtain ⟨row2, hrow2⟩ : ∃ r, r = (row1.toList.take (ob + j) ++ [Value.int .i64 v] ++ row1.toList.drop (ob + j + [Value.int .i64 v].length)).toArray := ⟨_, rfl⟩
          have hs2 : row2.size = cur.size := by rw [hrow2]; simp; omega
          rw [← hrow2]
          have hon : Only (fun k => k = g) w ((w.drew.setRow g row1).setRow g row2) := (((Only.refl (fun k => k = g) w).drew).trans (arr_only w.drew g row1) (fun _ _ h => h)).trans (arr_only _ g row2) (fun _ _ h => h)
          have one1 : ∀ u ∈ row1, u.oneCell' = true := by
            intro u hu
            rw [hrow1] at hu
            simp only [List.mem_toArray, List.mem_append] at hu
            rcases hu with (hu | hu) | hu
            · exact g4 u (by simpa using List.mem_of_mem_take hu)
            · exact h1d u hu
            · exact g4 u (by simpa using List.mem_of_mem_drop hu)
          refine fin _ g ob c' hroom hcc' (g6 _ hon) (AOk.ofNum (k := .i64) rfl ⟨row2, 3, fz, setRow_heap _ g row1 row2 _ _ gr1, ?_, .inr ⟨rfl, g5, ⟨rfl, hfz.imp id (fun h => by omega)⟩, ?_, ?_, ?_⟩⟩) ⟨g7, g8⟩
          · intro m z hm
            dsimp only at hm
            rw [hget m] at hm
            have hml : m < n + 1 := by
              by_cases h1 : m < j
              · omega
              · rw [if_neg h1] at hm
                by_cases h2 : m = j
                · omega
                · rw [if_neg h2] at hm
                  have := (List.getElem?_eq_some_iff.1 hm).1; omega
            rw [hrow2, List.getElem?_toArray, sand_get _ _ _ (by rw [Array.length_toList]; omega)]
            by_cases h1 : m < j
            · rw [if_pos h1] at hm
              rw [if_pos (by omega), hrow1, List.toList_toArray, sand_get _ _ _ (by rw [Array.length_toList]; omega), if_pos (by omega), Array.getElem?_toList]
              exact g2 m z hm
            · rw [if_neg h1] at hm
              rw [if_neg (by omega)]
              by_cases h2 : m = j
              · rw [if_pos h2] at hm
                rw [if_pos (by simp; omega), h2, Nat.sub_self]
                simp at hm; rw [← hm]; rfl
              · rw [if_neg h2] at hm
                rw [if_neg (by simp; omega), hrow1, List.toList_toArray, sand_get _ _ _ (by rw [Array.length_toList]; omega), if_neg (by omega), if_pos (by rw [hdl]; omega), List.getElem?_drop, show j + (ob + m - (ob + (j + 1))) = m - 1 by omega, List.getElem?_map, hm]; rfl
          · dsimp only; omega
          · rw [ins_len A _ _ hin]; dsimp only; omega
          · intro u hu
            rw [hrow2] at hu
            simp only [List.mem_toArray, List.mem_append] at hu
            rcases hu with (hu | hu) | hu
            · exact one1 u (by simpa using List.mem_of_mem_take hu)
            · exact h1v u hu
            · exact one1 u (by simpa using List.mem_of_mem_drop hu)
        · have hcs : ∀ (m : Nat) u, (A.map (Value.int .i64))[m]? = some u → w.cell? ⟨g, ob + m, none⟩ = some u := fun m u hu => by
            rw [List.getElem?_map] at hu
            cases hz : A[m]? with
            | none => rw [hz] at hu; cases hu
            | some z =>
              rw [hz] at hu
              simp only [Option.map_some, Option.some.injEq] at hu; subst hu
              have := g2 m z hz
              simp [World.cell?, g1, this]
          refine (Any2.slices_Insert_int_grow insLays g ob n c' j q.1 (q.2 + 0) 1 c1 (A.map (Value.int .i64)) [Value.int .i64 v] w hj (by decide) hnc (by omega) (by omega) (by simp [kA]) rfl hcs hvs1 h1c h1v).mono ?_
          rintro en w' ⟨rfl, rfl⟩
          have hge := grownCap_ge w (n + 1) c' (insRen.t 3)
          have hle := capM w (n + 1) c' (insRen.t 3) (by omega)
          have hzc : ∀ k, (Builtin.zeroCells (Value.int .i64 0).cells k).toList = List.replicate k (Value.int .i64 0) := fun k => by
            show (Builtin.zeroCells #[Value.int .i64 0] k).toList = _
            rw [zeroCells_rep _ (by simp)]; simp [rep_one]
          have hzl : ∀ k, (Builtin.zeroCells (Value.int .i64 0).cells k).size = k := fun k => by rw [← Array.length_toList, hzc]; simp
          generalize grownCap w (n + 1) c' (insRen.t 3) = G at hge hle ⊢
          obtain ⟨R0, hR0⟩ : ∃ r, r = ((A.map (Value.int .i64)).take j).toArray ++ Builtin.zeroCells (Value.int .i64 0).cells (n + 1 - j) ++ Builtin.zeroCells (Value.int .i64 0).cells (G - (n + 1)) := ⟨_, rfl⟩
          rw [← hR0]
          have hs0 : R0.size = G := by
            rw [hR0]; simp only [Array.size_append, List.size_toArray, List.length_take, List.length_map, hzl]; omega
          have hR0l : R0.toList = (A.map (Value.int .i64)).take j ++ List.replicate (n + 1 - j) (Value.int .i64 0) ++ List.replicate (G - (n + 1)) (Value.int .i64 0) := by
            rw [hR0, Array.toList_append, Array.toList_append, hzc, hzc]
          have one0 : ∀ u ∈ R0, u.oneCell' = true := by
            intro u hu
            rw [← Array.mem_toList_iff, hR0l] at hu
            simp only [List.mem_append, List.mem_replicate] at hu
            rcases hu with (hu | hu) | hu
            · exact h1c u (List.mem_of_mem_take hu)
            · rw [hu.2]; rfl
            · rw [hu.2]; rfl
          have hdl : ((A.map (Value.int .i64)).drop j).length = n - j := by rw [List.length_drop, List.length_map]; omega
          have h1d : ∀ u ∈ (A.map (Value.int .i64)).drop j, u.oneCell' = true := fun u hu => h1c u (List.mem_of_mem_drop hu)
          have gd : (w.alloc (.cells R0 (insRen.t 3))).drew.heap[w.heap.size]? = some (.cells R0 3 (0, 0)) := heap_alloc_new w _
          rw [setCells_row gd (.inl rfl) (by simp; omega) h1v]
          obtain ⟨row1, hrow1⟩ : ∃ r, r = (R0.toList.take j ++ [Value.int .i64 v] ++ R0.toList.drop (j + [Value.int .i64 v].length)).toArray := ⟨_, rfl⟩
          have hs1 : row1.size = G := by rw [hrow1]; simp; omega
          rw [← hrow1]
          have gr1 := setRow_heap _ w.heap.size R0 row1 _ _ gd
          have gr1' : ((w.alloc (.cells R0 (insRen.t 3))).drew.setRow w.heap.size row1).drew.heap[w.heap.size]? = some (.cells row1 3 (0, 0)) := gr1
          rw [setCells_row gr1' (.inl rfl) (by rw [hdl]; omega) h1d]
          obtain ⟨row2, hrow2⟩ : ∃ r, r = (row1.toList.take (j + 1) ++ (A.map (Value.int .i64)).drop j ++ row1.toList.drop (j + 1 + ((A.map (Value.int .i64)).drop j).length)).toArray := ⟨_, rfl⟩
          have hs2 : row2.size = G := by rw [hrow2]; simp only [List.size_toArray, List.length_append, List.length_take, List.length_drop, Array.length_toList, List.length_map]; omega
          rw [← hrow2]
          have hon : Only (fun _ => False) w (((w.alloc (.cells R0 (insRen.t 3))).drew.setRow w.heap.size row1).drew.setRow w.heap.size row2) :=
            ((((Only.refl (fun _ => False) w).alloc (.cells R0 (insRen.t 3))).drew.trans (arr_only _ w.heap.size row1) (fun i hi h => by omega)).drew).trans (arr_only _ w.heap.size row2) (fun i hi h => by omega)
          have one1 : ∀ u ∈ row1, u.oneCell' = true := by
            intro u hu
            rw [hrow1] at hu
            simp only [List.mem_toArray, List.mem_append] at hu
            rcases hu with (hu | hu) | hu
            · exact one0 u (by simpa using List.mem_of_mem_take hu)
            · exact h1v u hu
            · exact one0 u (by simpa using List.mem_of_mem_drop hu)
          refine fin _ w.heap.size 0 G hge hle (hdst.world hon) (AOk.ofNum (k := .i64) rfl ⟨row2, 3, (0, 0), setRow_heap _ w.heap.size row1 row2 _ _ gr1', ?_, .inr ⟨rfl, .inl hdst.only.size, ⟨rfl, .inl rfl⟩, ?_, ?_, ?_⟩⟩) newDis
          · intro m z hm
            dsimp only at hm
            rw [hget m] at hm
            have hml : m < n + 1 := by
              by_cases h1 : m < j
              · omega
              · rw [if_neg h1] at hm
                by_cases h2 : m = j
                · omega
                · rw [if_neg h2] at hm
                  have := (List.getElem?_eq_some_iff.1 hm).1; omega
            dsimp only
            rw [Nat.zero_add, hrow2, List.getElem?_toArray, sand_get _ _ _ (by rw [Array.length_toList]; omega)]
            by_cases h1 : m < j
            · rw [if_pos h1] at hm
              rw [if_pos (by omega), hrow1, List.toList_toArray, sand_get _ _ _ (by rw [Array.length_toList]; omega), if_pos h1, hR0l, List.append_assoc, List.getElem?_append_left (by rw [List.length_take, List.length_map]; omega), List.getElem?_take, if_pos h1, List.getElem?_map, hm]; rfl
            · rw [if_neg h1] at hm
              by_cases h2 : m = j
              · rw [if_pos h2] at hm
                rw [if_pos (by omega), hrow1, List.toList_toArray, sand_get _ _ _ (by rw [Array.length_toList]; omega), if_neg h1, if_pos (by simp; omega), h2, Nat.sub_self]
                simp at hm; rw [← hm]; rfl
              · rw [if_neg h2] at hm
                rw [if_neg (by omega), if_pos (by rw [hdl]; omega), List.getElem?_drop, show j + (m - (j + 1)) = m - 1 by omega, List.getElem?_map, hm]; rfl
          · dsimp only; omega
          · rw [ins_len A _ _ hin]; dsimp only; omega
          · intro u hu
            rw [hrow2] at hu
            simp only [List.mem_toArray, List.mem_append] at hu
            rcases hu with (hu | hu) | hu
            · exact one1 u (by simpa using List.mem_of_mem_take hu)
            · exact h1d u hu
            · exact one1 u (by simpa using List.mem_of_mem_drop hu)
      · obtain rfl : j = n := by omega
        by_cases hroom : j + 1 ≤ c'
        · obtain ⟨n1, n2⟩ | ⟨g, ob, cur, fz, rfl, g1, hfz, g2, g3, g4, g5, g6, g7, g8⟩ := hmem
          · omega
          have hcell : ∀ m (hm : m < c'), w.cell? ⟨g, ob + m, none⟩ = some (cur[ob + m]'(by omega)) := fun m hm => by
            have : ob + m < cur.size := by omega
            simp [World.cell?, g1, this]
          have hfr : ∀ m, m < c' → w.frozen? ⟨g, ob + m, none⟩ = false := fun m hm => by
            have : ob + m < cur.size := by omega
            rcases hfz with rfl | hz
            · simp [World.frozen?, g1]
            · simp [World.frozen?, g1]; omega
          refine (Any2.slices_Insert_int_end_room insLays g ob j c' q.1 (q.2 + 0) 1 c1 [Value.int .i64 v] w (by decide) hroom hcc' rfl (fun m hm => by
            rw [Nat.add_assoc, hcell (j + m) (by omega)]; rfl) (fun m hm => by rw [Nat.add_assoc]; exact hfr _ (by omega)) hvs1 h1v).mono ?_
          rintro en w' ⟨rfl, rfl⟩
          rw [setCells_row g1 hfz (by simp; omega) h1v]
          refine fin _ g ob c' hroom hcc' (g6 _ (arr_only w g _)) (AOk.ofNum (k := .i64) rfl ⟨_, 3, fz, setRow_heap w g cur _ _ _ g1, ?_, .inr ⟨rfl, g5, ⟨rfl, hfz.imp id (fun h => by simp; omega)⟩, ?_, ?_, ?_⟩⟩) ⟨g7, g8⟩
          · intro m z hm
            dsimp only at hm ⊢
            rw [List.getElem?_toArray, sand_get _ _ _ (by simp; omega)]
            rw [hget m] at hm
            by_cases h1 : m < j
            · rw [if_pos (by omega)]
              rw [if_pos h1] at hm
              rw [Array.getElem?_toList]; exact g2 m z hm
            · rw [if_neg (by omega)]
              rw [if_neg h1] at hm
              by_cases h2 : m = j
              · rw [if_pos h2] at hm
                rw [if_pos (by simp; omega), h2, Nat.sub_self]
                simp at hm ⊢; exact hm.symm ▸ rfl
              · rw [if_neg h2, List.getElem?_eq_none (by omega)] at hm
                cases hm
          · simp; omega
          · rw [ins_len A _ _ hin]; dsimp only; omega
          · intro u hu
            simp only [List.mem_toArray, List.mem_append] at hu
            rcases hu with (hu | hu) | hu
            · exact g4 u (by simpa using List.mem_of_mem_take hu)
            · exact h1v u hu
            · exact g4 u (by simpa using List.mem_of_mem_drop hu)
        · have hcb : base = none → j = 0 := by
            intro hb
            rcases hmem with ⟨n1, n2⟩ | ⟨g, ob, cur, fz, rfl, g1⟩
            · exact n1
            · cases hb
          refine (Any2.slices_Insert_int_end_grow insLays base j c' q.1 (q.2 + 0) 1 c1 (A.map (Value.int .i64)) [Value.int .i64 v] w (by decide) hnc (by omega) (by omega) (by simp [kA]) rfl hcb (fun a ha m u hu => by
            rcases hmem with ⟨n1, n2⟩ | ⟨g, ob, cur, fz, rfl, g1, hfz, g2, g3, g4⟩
            · rw [List.getElem?_map] at hu
              rw [List.getElem?_eq_none (by omega)] at hu; cases hu
            · cases ha
              rw [List.getElem?_map] at hu
              cases hz : A[m]? with
              | none => rw [hz] at hu; cases hu
              | some z =>
                rw [hz] at hu
                simp only [Option.map_some, Option.some.injEq] at hu; subst hu
                rw [Addr.add_lit]
                have := g2 m z hz
                simp [World.cell?, g1, this]) hvs1 h1v).mono ?_
          rintro en w' ⟨rfl, rfl⟩
          have hge := grownCap_ge w (j + 1) c' (insRen.t 3)
          have hzc : ∀ k, (Builtin.zeroCells (Value.int .i64 0).cells k).toList = List.replicate k (Value.int .i64 0) := fun k => by
            show (Builtin.zeroCells #[Value.int .i64 0] k).toList = _
            rw [zeroCells_rep _ (by simp)]; simp [rep_one]
          have hw := hdst.world (((Only.refl (fun _ => False) w).drew).alloc (.cells ((A.map (Value.int .i64) ++ [Value.int .i64 v]).toArray ++ Builtin.zeroCells (Value.int .i64 0).cells (grownCap w (j + 1) c' (insRen.t 3) - (j + 1))) (insRen.t 3)))
          refine fin _ w.heap.size 0 _ hge (capM w _ _ _ (by omega)) hw (AOk.ofNum (k := .i64) rfl ⟨_, 3, (0, 0), heap_alloc_new w.drew _, ?_, .inr ⟨rfl, .inl hdst.only.size, ⟨rfl, .inl rfl⟩, ?_, ?_, ?_⟩⟩) newDis
          · intro m z hm
            dsimp only at hm ⊢
            have he : U.ins A (j : Int) v = A ++ [v] := by
              unfold U.ins
              rw [hjn, List.take_of_length_le (by omega), List.drop_eq_nil_of_le (by omega), List.append_nil]
            rw [he] at hm
            have hlt := (List.getElem?_eq_some_iff.1 hm).1
            rw [Nat.zero_add, ← Array.getElem?_toList, Array.toList_append, List.toList_toArray, List.getElem?_append_left (by simpa using hlt), show A.map (Value.int .i64) ++ [Value.int .i64 v] = (A ++ [v]).map (Value.int .i64) by simp, List.getElem?_map, hm]; rfl
          · have h1 : (Builtin.zeroCells (Value.int .i64 0).cells (grownCap w (j + 1) c' (insRen.t 3) - (j + 1))).size = grownCap w (j + 1) c' (insRen.t 3) - (j + 1) := by
              rw [← Array.length_toList, hzc]; simp
            simp only [Array.size_append, List.size_toArray, List.length_append, List.length_map, List.length_cons, List.length_nil, h1]; omega
          · rw [ins_len A _ _ hin]; dsimp only; omega
          · intro u hu
            rw [← Array.mem_toList_iff, Array.toList_append, hzc] at hu
            simp only [List.toList_toArray, List.mem_append, List.mem_replicate] at hu
            rcases hu with (hu | hu) | hu
            · exact h1c u hu
            · exact h1v u hu
            · rw [hu.2]; rfl
    · cases h
  · cases h
end Go.Proofs.Ytjhmlagkjpcjnaa
end

section
namespace Go.Proofs.Ytjhmlagkjpcjnaa
open Go Reck Ost
set_option linter.unusedVariables false
set_option maxRecDepth 100000
def pLess : Pat := fun args σ => match args, σ with
  | [a, b], ⟨[], [], 0, [], 0⟩ => match intX a, intX b with
    | some (.i64, a), some (.i64, b) => some fun K => (a < b → K (lit (.bool true)) emptySt) ∧ (¬ a < b → K (lit (.bool false)) emptySt)
    | _, _ => none
  | _, _ => none
def tLess : Tbl := tblIf 65 pLess
structure U.bsI (A : List Int) (k i j : Int) : Prop where
  out : 0 ≤ i ∧ i ≤ j ∧ j ≤ A.length ∧ (∀ m : Nat, (m : Int) < i → U.at A m < k) ∧ (∀ m : Nat, j ≤ (m : Int) → m < A.length → ¬ U.at A m < k)
def bsInv (c : Code) (tm : List AV) (σ : St) : Inv where
  X := Int × Int
  tags := [0]
  tag _ _ := 0
  J := wrBut [7, 8] c
  val _ x := [(7, xi .i64 x.1), (8, xi .i64 x.2)]
  st _ _ σ' := σ'
  I _ x := U.bsI (contS tm σ 0) (slotI tm 1) x.1 x.2
  m _ x := (x.2 - x.1).toNat
  ren := noRen
def invBS : InvF := fun c tm σ => match tm.length, firstReg c with
  | 54, some 3 => some (bsInv c tm σ)
  | _, _ => none
/-- Where a key stands, or would stand. -/
def U.lo (A : List Int) (k : Int) : Int := ((A.takeWhile fun x => decide (x < k)).length : Nat)
structure U.Srt (A : List Int) : Prop where
  out : A.Pairwise (· < ·)
structure U.Has (A : List Int) (k : Int) : Prop where
  out : k ∈ A
def pBS : Pat := fun args σ => match args, σ with
  | [s, k], ⟨[], [], 0, [some ⟨3, .n .i64, L, cap, false⟩], 0⟩ => match aslX s, intX k with
    | some ⟨0, o, n, c⟩, some (.i64, k) => some fun K => ∃ A, (U.Rg L o n c cap A ∧ U.Srt A) ∧ ∀ z : Int, z = U.lo A k → (U.Has A k → K (.inr [.inl (xintC .i64 z), .inl (.inl (.bool true))]) ⟨[], [], 0, [some (ib L cap false)], 0⟩) ∧ (¬ U.Has A k → K (.inr [.inl (xintC .i64 z), .inl (.inl (.bool false))]) ⟨[], [], 0, [some (ib L cap false)], 0⟩)
    | _, _ => none
  | _, _ => none
def tSN : Tbl := tblOr (tblIf 59 pBS) (tblIf 51 pIns)
def shB (a b : Cell) (m : Int) : Option Blk := some ⟨82, [a, b, xintC .i64 m], none, 3, false⟩
def shSt (n c cap : Nat) (L : List Int) (d dap : Nat) (M : List Int) (m : Int) : St := ⟨[shB (aslC ⟨0, 0, n, c⟩) (aslC ⟨1, 0, n, d⟩) m], [], 0, [some (ib L cap false), some (ib M dap false)], 0⟩
--PLAIN
theorem less_vc (K : AV → St → Prop) (a b : Int) : (runR inv0 tbl0 65 [xi .i64 a, xi .i64 b] emptySt K) = ((¬a = a → (¬b = b → (a < b → K (Sum.inl (Sum.inl (Sum.inl (Value.bool true)))) { heap := [], ints := [], opqs := (0 : Nat), arrs := [], junks := (0 : Nat) }) ∧ (¬a < b → K (Sum.inl (Sum.inl (Sum.inl (Value.bool false)))) { heap := [], ints := [], opqs := (0 : Nat), arrs := [], junks := (0 : Nat) })) ∧ (¬¬b = b → K (Sum.inl (Sum.inl (Sum.inl (Value.bool true)))) { heap := [], ints := [], opqs := (0 : Nat), arrs := [], junks := (0 : Nat) })) ∧ (¬¬a = a → (a < b → K (Sum.inl (Sum.inl (Sum.inl (Value.bool true)))) { heap := [], ints := [], opqs := (0 : Nat), arrs := [], junks := (0 : Nat) }) ∧ (¬a < b → K (Sum.inl (Sum.inl (Sum.inl (Value.bool false)))) { heap := [], ints := [], opqs := (0 : Nat), arrs := [], junks := (0 : Nat) }))) := by kernel_rfl
theorem bs_vc (K : AV → St → Prop) (L : List Int) (o n c cap : Nat) (k : Int) : (runR invBS tLess 59 [cell (aslC ⟨0, o, n, c⟩), xi .i64 k] ⟨[], [], 0, [some (ib L cap false)], 0⟩ K) = (∀ (z0 : Int), z0 = (↑n : Int) → (∃ (y1 : Int × Int), (o = o ∧ n = n ∧ c = c) ∧ k = k ∧ z0 = z0 ∧ (0 : Int) = Prod.fst y1 ∧ z0 = Prod.snd y1 ∧ (o = o ∧ n = n ∧ c = c) ∧ z0 = z0 ∧ z0 = z0 ∧ (L = L ∧ cap = cap ∧ false = false) ∧ U.bsI (List.take n (List.drop o L)) k (Prod.fst y1) (Prod.snd y1)) ∧ ∀ (x2 : Int × Int), U.bsI (List.take n (List.drop o L)) k (Prod.fst x2) (Prod.snd x2) → (Prod.fst x2 < Prod.snd x2 → ∀ (z3 : Int), z3 = IntKind.wrap IntKind.i64 (Prod.fst x2 + Prod.snd x2) → ∀ (z4 : Int), z4 = IntKind.wrap IntKind.u64 z3 → (0 : Int) ≤ (1 : Int) ∧ ∀ (z5 : Int), z5 = shrI IntKind.u64 z4 (1 : Int) → ∀ (z6 : Int), z6 = IntKind.wrap IntKind.i64 z5 → ((0 : Int) ≤ z6 ∧ z6 < (↑n : Int)) ∧ ∀ (j7 : Nat), (↑j7 : Int) = (↑o : Int) + z6 → j7 < List.length L ∧ ∀ (z8 : Int), z8 = List.getD L j7 (0 : Int) → (z8 < k → ∀ (z9 : Int), z9 = IntKind.wrap IntKind.i64 (z6 + (1 : Int)) → ∃ (y10 : Int × Int), (o = o ∧ n = n ∧ c = c) ∧ k = k ∧ z0 = z0 ∧ z9 = Prod.fst y10 ∧ Prod.snd x2 = Prod.snd y10 ∧ (o = o ∧ n = n ∧ c = c) ∧ z0 = z0 ∧ z0 = z0 ∧ (L = L ∧ cap = cap ∧ false = false) ∧ U.bsI (List.take n (List.drop o L)) k (Prod.fst y10) (Prod.snd y10) ∧ Int.toNat (Prod.snd y10 - Prod.fst y10) < Int.toNat (Prod.snd x2 - Prod.fst x2)) ∧ (¬z8 < k → ∃ (y11 : Int × Int), (o = o ∧ n = n ∧ c = c) ∧ k = k ∧ z0 = z0 ∧ Prod.fst x2 = Prod.fst y11 ∧ z6 = Prod.snd y11 ∧ (o = o ∧ n = n ∧ c = c) ∧ z0 = z0 ∧ z0 = z0 ∧ (L = L ∧ cap = cap ∧ false = false) ∧ U.bsI (List.take n (List.drop o L)) k (Prod.fst y11) (Prod.snd y11) ∧ Int.toNat (Prod.snd y11 - Prod.fst y11) < Int.toNat (Prod.snd x2 - Prod.fst x2))) ∧ (¬Prod.fst x2 < Prod.snd x2 → (Prod.fst x2 < z0 → ((0 : Int) ≤ Prod.fst x2 ∧ Prod.fst x2 < (↑n : Int)) ∧ ∀ (j12 : Nat), (↑j12 : Int) = (↑o : Int) + Prod.fst x2 → j12 < List.length L ∧ ∀ (z13 : Int), z13 = List.getD L j12 (0 : Int) → (z13 = k → K (Sum.inr [Sum.inl (Sum.inr (Sum.inr (Sum.inr (Sum.inr (Sum.inr (Sum.inr (Sum.inl (IntKind.i64, Prod.fst x2)))))))), Sum.inl (Sum.inl (Value.bool true))]) { heap := [], ints := [], opqs := (0 : Nat), arrs := [some { elem := (3 : Nat), k := AK.n IntKind.i64, l := L, cap := cap, ro := false }], junks := (0 : Nat) }) ∧ (¬z13 = k → ((0 : Int) ≤ Prod.fst x2 ∧ Prod.fst x2 < (↑n : Int)) ∧ ∀ (j14 : Nat), (↑j14 : Int) = (↑o : Int) + Prod.fst x2 → j14 < List.length L ∧ ∀ (z15 : Int), z15 = List.getD L j14 (0 : Int) → (¬z15 = z15 → (¬k = k → K (Sum.inr [Sum.inl (Sum.inr (Sum.inr (Sum.inr (Sum.inr (Sum.inr (Sum.inr (Sum.inl (IntKind.i64, Prod.fst x2)))))))), Sum.inl (Sum.inl (Value.bool true))]) { heap := [], ints := [], opqs := (0 : Nat), arrs := [some { elem := (3 : Nat), k := AK.n IntKind.i64, l := L, cap := cap, ro := false }], junks := (0 : Nat) }) ∧ (¬¬k = k → K (Sum.inr [Sum.inl (Sum.inr (Sum.inr (Sum.inr (Sum.inr (Sum.inr (Sum.inr (Sum.inl (IntKind.i64, Prod.fst x2)))))))), Sum.inl (Sum.inl (Value.bool false))]) { heap := [], ints := [], opqs := (0 : Nat), arrs := [some { elem := (3 : Nat), k := AK.n IntKind.i64, l := L, cap := cap, ro := false }], junks := (0 : Nat) })) ∧ (¬¬z15 = z15 → K (Sum.inr [Sum.inl (Sum.inr (Sum.inr (Sum.inr (Sum.inr (Sum.inr (Sum.inr (Sum.inl (IntKind.i64, Prod.fst x2)))))))), Sum.inl (Sum.inl (Value.bool false))]) { heap := [], ints := [], opqs := (0 : Nat), arrs := [some { elem := (3 : Nat), k := AK.n IntKind.i64, l := L, cap := cap, ro := false }], junks := (0 : Nat) }))) ∧ (¬Prod.fst x2 < z0 → K (Sum.inr [Sum.inl (Sum.inr (Sum.inr (Sum.inr (Sum.inr (Sum.inr (Sum.inr (Sum.inl (IntKind.i64, Prod.fst x2)))))))), Sum.inl (Sum.inl (Value.bool false))]) { heap := [], ints := [], opqs := (0 : Nat), arrs := [some { elem := (3 : Nat), k := AK.n IntKind.i64, l := L, cap := cap, ro := false }], junks := (0 : Nat) }))) := by kernel_rfl
theorem newSh_vc (K : AV → St → Prop) (m : Int) : (runR inv0 tbl0 21 [xi .i64 m] emptySt K) = (K (Sum.inl (Sum.inl (Sum.inr (Sum.inl ((0 : Nat), (0 : Nat)))))) { heap := [some { elem := nat_lit 82, cells := [Sum.inl (Value.slice none (0 : Nat) (0 : Nat)), Sum.inl (Value.slice none (0 : Nat) (0 : Nat)), Sum.inr (Sum.inr (Sum.inr (Sum.inr (Sum.inr (Sum.inr (Sum.inl (IntKind.i64, m)))))))], j := none, c := (0 : Nat) + (1 : Nat) + (1 : Nat) + (1 : Nat), z := false }], ints := [], opqs := (0 : Nat), arrs := [], junks := (0 : Nat) }) := by kernel_rfl
theorem shSet_vc (K : AV → St → Prop) (L M : List Int) (n c cap d dap : Nat) (m k v : Int) : (runR inv0 tSN 22 [ptr 0 0, xi .i64 k, xi .i64 v] (shSt n c cap L d dap M m) K) = (∃ (y0 : List Int), (U.Rg L ((0 : Nat)) n c cap y0 ∧ U.Srt y0) ∧ ∀ (z1 : Int), z1 = U.lo y0 k → (U.Has y0 k → ((0 : Int) ≤ z1 ∧ z1 < (↑n : Int)) ∧ ∀ (j2 : Nat), (↑j2 : Int) = (↑((0 : Nat)) : Int) + z1 → j2 < List.length M ∧ ∀ (l'3 : List Int), l'3 = List.set M j2 v → K (Sum.inl (Sum.inl (Sum.inr (Sum.inr (Sum.inr (Sum.inr (Sum.inr (Sum.inr (Sum.inl (IntKind.i64, (0 : Int))))))))))) { heap := [some { elem := nat_lit 82, cells := [Sum.inr (Sum.inr (Sum.inr (Sum.inr (Sum.inr (Sum.inr (Sum.inr (Sum.inl { a := (0 : Nat), o := (0 : Nat), n := n, c := c }))))))), Sum.inr (Sum.inr (Sum.inr (Sum.inr (Sum.inr (Sum.inr (Sum.inr (Sum.inl { a := (1 : Nat), o := (0 : Nat), n := n, c := d }))))))), Sum.inr (Sum.inr (Sum.inr (Sum.inr (Sum.inr (Sum.inr (Sum.inl (IntKind.i64, m)))))))], j := none, c := (3 : Nat), z := false }], ints := [], opqs := (0 : Nat), arrs := [some { elem := (3 : Nat), k := AK.n IntKind.i64, l := L, cap := cap, ro := false }, some { elem := nat_lit 3, k := AK.n IntKind.i64, l := l'3, cap := dap, ro := false }], junks := (0 : Nat) }) ∧ (¬U.Has y0 k → ∀ (z4 : Int), z4 = (↑n : Int) → (m ≤ z4 → K (Sum.inl (Sum.inl (Sum.inr (Sum.inr (Sum.inr (Sum.inr (Sum.inr (Sum.inr (Sum.inl (IntKind.i64, (4 : Int))))))))))) { heap := [some { elem := nat_lit 82, cells := [Sum.inr (Sum.inr (Sum.inr (Sum.inr (Sum.inr (Sum.inr (Sum.inr (Sum.inl { a := (0 : Nat), o := (0 : Nat), n := n, c := c }))))))), Sum.inr (Sum.inr (Sum.inr (Sum.inr (Sum.inr (Sum.inr (Sum.inr (Sum.inl { a := (1 : Nat), o := (0 : Nat), n := n, c := d }))))))), Sum.inr (Sum.inr (Sum.inr (Sum.inr (Sum.inr (Sum.inr (Sum.inl (IntKind.i64, m)))))))], j := none, c := (3 : Nat), z := false }], ints := [], opqs := (0 : Nat), arrs := [some { elem := (3 : Nat), k := AK.n IntKind.i64, l := L, cap := cap, ro := false }, some { elem := (3 : Nat), k := AK.n IntKind.i64, l := M, cap := dap, ro := false }], junks := (0 : Nat) }) ∧ (¬m ≤ z4 → ∃ (y5 : List Int), (U.Rg L ((0 : Nat)) n c cap y5 ∧ ((0 : Int) ≤ z1 ∧ z1 ≤ (↑n : Int)) ∧ n ≤ (1000000 : Nat) ∧ c ≤ (9223372036854775807 : Nat)) ∧ ∀ (L'6 : List Int) (n'7 c'8 : Nat), n'7 = n + (1 : Nat) → c'8 ≤ (9223372036854775807 : Nat) → U.Rg L'6 (0 : Nat) n'7 c'8 c'8 (U.ins y5 z1 k) → ∃ (y9 : List Int), (U.Rg M ((0 : Nat)) n d dap y9 ∧ ((0 : Int) ≤ z1 ∧ z1 ≤ (↑n : Int)) ∧ n ≤ (1000000 : Nat) ∧ d ≤ (9223372036854775807 : Nat)) ∧ ∀ (L'10 : List Int) (n'11 c'12 : Nat), n'11 = n + (1 : Nat) → c'12 ≤ (9223372036854775807 : Nat) → U.Rg L'10 (0 : Nat) n'11 c'12 c'12 (U.ins y9 z1 v) → K (Sum.inl (Sum.inl (Sum.inr (Sum.inr (Sum.inr (Sum.inr (Sum.inr (Sum.inr (Sum.inl (IntKind.i64, (0 : Int))))))))))) { heap := [some { elem := nat_lit 82, cells := [Sum.inr (Sum.inr (Sum.inr (Sum.inr (Sum.inr (Sum.inr (Sum.inr (Sum.inl { a := (2 : Nat), o := (0 : Nat), n := n'7, c := c'8 }))))))), Sum.inr (Sum.inr (Sum.inr (Sum.inr (Sum.inr (Sum.inr (Sum.inr (Sum.inl { a := (3 : Nat), o := (0 : Nat), n := n'11, c := c'12 }))))))), Sum.inr (Sum.inr (Sum.inr (Sum.inr (Sum.inr (Sum.inr (Sum.inl (IntKind.i64, m)))))))], j := none, c := (3 : Nat), z := false }], ints := [], opqs := (0 : Nat), arrs := [none, none, some { elem := (3 : TypeId), k := AK.n IntKind.i64, l := L'6, cap := c'8, ro := false }, some { elem := (3 : TypeId), k := AK.n IntKind.i64, l := L'10, cap := c'12, ro := false }], junks := (0 : Nat) }))) := by kernel_rfl
theorem shKeys_vc (K : AV → St → Prop) (L M : List Int) (n c cap d dap : Nat) (m : Int) : (runR inv0 tSN 23 [ptr 0 0] (shSt n c cap L d dap M m) K) = ((n = (0 : Nat) → K (Sum.inl (Sum.inl (Sum.inr (Sum.inr (Sum.inr (Sum.inr (Sum.inr (Sum.inr (Sum.inr (Sum.inl { a := (2 : Nat), o := (0 : Nat), n := (0 : Nat), c := (0 : Nat) })))))))))) { heap := [some { elem := nat_lit 82, cells := [Sum.inr (Sum.inr (Sum.inr (Sum.inr (Sum.inr (Sum.inr (Sum.inr (Sum.inl { a := (0 : Nat), o := (0 : Nat), n := n, c := c }))))))), Sum.inr (Sum.inr (Sum.inr (Sum.inr (Sum.inr (Sum.inr (Sum.inr (Sum.inl { a := (1 : Nat), o := (0 : Nat), n := n, c := d }))))))), Sum.inr (Sum.inr (Sum.inr (Sum.inr (Sum.inr (Sum.inr (Sum.inl (IntKind.i64, m)))))))], j := none, c := (3 : Nat), z := false }], ints := [], opqs := (0 : Nat), arrs := [some { elem := (3 : TypeId), k := AK.n IntKind.i64, l := L, cap := cap, ro := false }, some { elem := (3 : TypeId), k := AK.n IntKind.i64, l := M, cap := dap, ro := false }, some { elem := (3 : Nat), k := AK.n IntKind.i64, l := [], cap := (0 : Nat), ro := false }], junks := (0 : Nat) }) ∧ True ∧ Nat.le ((0 : Nat) + n) (List.length L) ∧ (0 : Nat) ≤ (16777216 : Nat) ∧ n ≤ (16777216 : Nat) ∧ ∀ (l'0 : List Int) (n'1 c'2 : Nat), l'0 = [] ++ List.take n (List.drop ((0 : Nat)) L) → n'1 = (0 : Nat) + n → n'1 ≤ c'2 → K (Sum.inl (Sum.inl (Sum.inr (Sum.inr (Sum.inr (Sum.inr (Sum.inr (Sum.inr (Sum.inr (Sum.inl { a := (2 : Nat), o := (0 : Nat), n := n'1, c := c'2 })))))))))) { heap := [some { elem := nat_lit 82, cells := [Sum.inr (Sum.inr (Sum.inr (Sum.inr (Sum.inr (Sum.inr (Sum.inr (Sum.inl { a := (0 : Nat), o := (0 : Nat), n := n, c := c }))))))), Sum.inr (Sum.inr (Sum.inr (Sum.inr (Sum.inr (Sum.inr (Sum.inr (Sum.inl { a := (1 : Nat), o := (0 : Nat), n := n, c := d }))))))), Sum.inr (Sum.inr (Sum.inr (Sum.inr (Sum.inr (Sum.inr (Sum.inl (IntKind.i64, m)))))))], j := none, c := (3 : Nat), z := false }], ints := [], opqs := (0 : Nat), arrs := [some { elem := (3 : TypeId), k := AK.n IntKind.i64, l := L, cap := cap, ro := false }, some { elem := (3 : TypeId), k := AK.n IntKind.i64, l := M, cap := dap, ro := false }, some { elem := (3 : Nat), k := AK.n IntKind.i64, l := l'0, cap := c'2, ro := false }], junks := (0 : Nat) }) := by kernel_rfl
theorem shVals_vc (K : AV → St → Prop) (L M : List Int) (n c cap d dap : Nat) (m : Int) : (runR inv0 tSN 24 [ptr 0 0] (shSt n c cap L d dap M m) K) = ((n = (0 : Nat) → K (Sum.inl (Sum.inl (Sum.inr (Sum.inr (Sum.inr (Sum.inr (Sum.inr (Sum.inr (Sum.inr (Sum.inl { a := (2 : Nat), o := (0 : Nat), n := (0 : Nat), c := (0 : Nat) })))))))))) { heap := [some { elem := nat_lit 82, cells := [Sum.inr (Sum.inr (Sum.inr (Sum.inr (Sum.inr (Sum.inr (Sum.inr (Sum.inl { a := (0 : Nat), o := (0 : Nat), n := n, c := c }))))))), Sum.inr (Sum.inr (Sum.inr (Sum.inr (Sum.inr (Sum.inr (Sum.inr (Sum.inl { a := (1 : Nat), o := (0 : Nat), n := n, c := d }))))))), Sum.inr (Sum.inr (Sum.inr (Sum.inr (Sum.inr (Sum.inr (Sum.inl (IntKind.i64, m)))))))], j := none, c := (3 : Nat), z := false }], ints := [], opqs := (0 : Nat), arrs := [some { elem := (3 : TypeId), k := AK.n IntKind.i64, l := L, cap := cap, ro := false }, some { elem := (3 : TypeId), k := AK.n IntKind.i64, l := M, cap := dap, ro := false }, some { elem := (3 : Nat), k := AK.n IntKind.i64, l := [], cap := (0 : Nat), ro := false }], junks := (0 : Nat) }) ∧ True ∧ Nat.le ((0 : Nat) + n) (List.length M) ∧ (0 : Nat) ≤ (16777216 : Nat) ∧ n ≤ (16777216 : Nat) ∧ ∀ (l'0 : List Int) (n'1 c'2 : Nat), l'0 = [] ++ List.take n (List.drop ((0 : Nat)) M) → n'1 = (0 : Nat) + n → n'1 ≤ c'2 → K (Sum.inl (Sum.inl (Sum.inr (Sum.inr (Sum.inr (Sum.inr (Sum.inr (Sum.inr (Sum.inr (Sum.inl { a := (2 : Nat), o := (0 : Nat), n := n'1, c := c'2 })))))))))) { heap := [some { elem := nat_lit 82, cells := [Sum.inr (Sum.inr (Sum.inr (Sum.inr (Sum.inr (Sum.inr (Sum.inr (Sum.inl { a := (0 : Nat), o := (0 : Nat), n := n, c := c }))))))), Sum.inr (Sum.inr (Sum.inr (Sum.inr (Sum.inr (Sum.inr (Sum.inr (Sum.inl { a := (1 : Nat), o := (0 : Nat), n := n, c := d }))))))), Sum.inr (Sum.inr (Sum.inr (Sum.inr (Sum.inr (Sum.inr (Sum.inl (IntKind.i64, m)))))))], j := none, c := (3 : Nat), z := false }], ints := [], opqs := (0 : Nat), arrs := [some { elem := (3 : TypeId), k := AK.n IntKind.i64, l := L, cap := cap, ro := false }, some { elem := (3 : TypeId), k := AK.n IntKind.i64, l := M, cap := dap, ro := false }, some { elem := (3 : Nat), k := AK.n IntKind.i64, l := l'0, cap := c'2, ro := false }], junks := (0 : Nat) }) := by kernel_rfl
theorem shNext_vc (K : AV → St → Prop) (L M : List Int) (n c cap d dap : Nat) (m k : Int) : (runR inv0 tSN 30 [ptr 0 0, xi .i64 k] (shSt n c cap L d dap M m) K) = (∃ (y0 : List Int), (U.Rg L ((0 : Nat)) n c cap y0 ∧ U.Srt y0) ∧ ∀ (z1 : Int), z1 = U.lo y0 k → (U.Has y0 k → ∀ (z2 : Int), z2 = IntKind.wrap IntKind.i64 (z1 + (1 : Int)) → ∀ (z3 : Int), z3 = (↑n : Int) → (z3 ≤ z2 → K (Sum.inr [Sum.inl (Sum.inr (Sum.inr (Sum.inr (Sum.inr (Sum.inr (Sum.inr (Sum.inl (IntKind.i64, k)))))))), Sum.inl (Sum.inr (Sum.inr (Sum.inr (Sum.inr (Sum.inr (Sum.inr (Sum.inl (IntKind.i64, (0 : Int))))))))), Sum.inl (Sum.inl (Value.bool false))]) { heap := [some { elem := nat_lit 82, cells := [Sum.inr (Sum.inr (Sum.inr (Sum.inr (Sum.inr (Sum.inr (Sum.inr (Sum.inl { a := (0 : Nat), o := (0 : Nat), n := n, c := c }))))))), Sum.inr (Sum.inr (Sum.inr (Sum.inr (Sum.inr (Sum.inr (Sum.inr (Sum.inl { a := (1 : Nat), o := (0 : Nat), n := n, c := d }))))))), Sum.inr (Sum.inr (Sum.inr (Sum.inr (Sum.inr (Sum.inr (Sum.inl (IntKind.i64, m)))))))], j := none, c := (3 : Nat), z := false }], ints := [], opqs := (0 : Nat), arrs := [some { elem := (3 : TypeId), k := AK.n IntKind.i64, l := L, cap := cap, ro := false }, some { elem := (3 : TypeId), k := AK.n IntKind.i64, l := M, cap := dap, ro := false }], junks := (0 : Nat) }) ∧ (¬z3 ≤ z2 → ((0 : Int) ≤ z2 ∧ z2 < (↑n : Int)) ∧ ∀ (j4 : Nat), (↑j4 : Int) = (↑((0 : Nat)) : Int) + z2 → j4 < List.length L ∧ ∀ (z5 : Int), z5 = List.getD L j4 (0 : Int) → ((0 : Int) ≤ z2 ∧ z2 < (↑n : Int)) ∧ ∀ (j6 : Nat), (↑j6 : Int) = (↑((0 : Nat)) : Int) + z2 → j6 < List.length M ∧ ∀ (z7 : Int), z7 = List.getD M j6 (0 : Int) → K (Sum.inr [Sum.inl (Sum.inr (Sum.inr (Sum.inr (Sum.inr (Sum.inr (Sum.inr (Sum.inl (IntKind.i64, z5)))))))), Sum.inl (Sum.inr (Sum.inr (Sum.inr (Sum.inr (Sum.inr (Sum.inr (Sum.inl (IntKind.i64, z7)))))))), Sum.inl (Sum.inl (Value.bool true))]) { heap := [some { elem := nat_lit 82, cells := [Sum.inr (Sum.inr (Sum.inr (Sum.inr (Sum.inr (Sum.inr (Sum.inr (Sum.inl { a := (0 : Nat), o := (0 : Nat), n := n, c := c }))))))), Sum.inr (Sum.inr (Sum.inr (Sum.inr (Sum.inr (Sum.inr (Sum.inr (Sum.inl { a := (1 : Nat), o := (0 : Nat), n := n, c := d }))))))), Sum.inr (Sum.inr (Sum.inr (Sum.inr (Sum.inr (Sum.inr (Sum.inl (IntKind.i64, m)))))))], j := none, c := (3 : Nat), z := false }], ints := [], opqs := (0 : Nat), arrs := [some { elem := (3 : TypeId), k := AK.n IntKind.i64, l := L, cap := cap, ro := false }, some { elem := (3 : TypeId), k := AK.n IntKind.i64, l := M, cap := dap, ro := false }], junks := (0 : Nat) })) ∧ (¬U.Has y0 k → ∀ (z8 : Int), z8 = (↑n : Int) → (z8 ≤ z1 → K (Sum.inr [Sum.inl (Sum.inr (Sum.inr (Sum.inr (Sum.inr (Sum.inr (Sum.inr (Sum.inl (IntKind.i64, k)))))))), Sum.inl (Sum.inr (Sum.inr (Sum.inr (Sum.inr (Sum.inr (Sum.inr (Sum.inl (IntKind.i64, (0 : Int))))))))), Sum.inl (Sum.inl (Value.bool false))]) { heap := [some { elem := nat_lit 82, cells := [Sum.inr (Sum.inr (Sum.inr (Sum.inr (Sum.inr (Sum.inr (Sum.inr (Sum.inl { a := (0 : Nat), o := (0 : Nat), n := n, c := c }))))))), Sum.inr (Sum.inr (Sum.inr (Sum.inr (Sum.inr (Sum.inr (Sum.inr (Sum.inl { a := (1 : Nat), o := (0 : Nat), n := n, c := d }))))))), Sum.inr (Sum.inr (Sum.inr (Sum.inr (Sum.inr (Sum.inr (Sum.inl (IntKind.i64, m)))))))], j := none, c := (3 : Nat), z := false }], ints := [], opqs := (0 : Nat), arrs := [some { elem := (3 : TypeId), k := AK.n IntKind.i64, l := L, cap := cap, ro := false }, some { elem := (3 : TypeId), k := AK.n IntKind.i64, l := M, cap := dap, ro := false }], junks := (0 : Nat) }) ∧ (¬z8 ≤ z1 → ((0 : Int) ≤ z1 ∧ z1 < (↑n : Int)) ∧ ∀ (j9 : Nat), (↑j9 : Int) = (↑((0 : Nat)) : Int) + z1 → j9 < List.length L ∧ ∀ (z10 : Int), z10 = List.getD L j9 (0 : Int) → ((0 : Int) ≤ z1 ∧ z1 < (↑n : Int)) ∧ ∀ (j11 : Nat), (↑j11 : Int) = (↑((0 : Nat)) : Int) + z1 → j11 < List.length M ∧ ∀ (z12 : Int), z12 = List.getD M j11 (0 : Int) → K (Sum.inr [Sum.inl (Sum.inr (Sum.inr (Sum.inr (Sum.inr (Sum.inr (Sum.inr (Sum.inl (IntKind.i64, z10)))))))), Sum.inl (Sum.inr (Sum.inr (Sum.inr (Sum.inr (Sum.inr (Sum.inr (Sum.inl (IntKind.i64, z12)))))))), Sum.inl (Sum.inl (Value.bool true))]) { heap := [some { elem := nat_lit 82, cells := [Sum.inr (Sum.inr (Sum.inr (Sum.inr (Sum.inr (Sum.inr (Sum.inr (Sum.inl { a := (0 : Nat), o := (0 : Nat), n := n, c := c }))))))), Sum.inr (Sum.inr (Sum.inr (Sum.inr (Sum.inr (Sum.inr (Sum.inr (Sum.inl { a := (1 : Nat), o := (0 : Nat), n := n, c := d }))))))), Sum.inr (Sum.inr (Sum.inr (Sum.inr (Sum.inr (Sum.inr (Sum.inl (IntKind.i64, m)))))))], j := none, c := (3 : Nat), z := false }], ints := [], opqs := (0 : Nat), arrs := [some { elem := (3 : TypeId), k := AK.n IntKind.i64, l := L, cap := cap, ro := false }, some { elem := (3 : TypeId), k := AK.n IntKind.i64, l := M, cap := dap, ro := false }], junks := (0 : Nat) }))) := by kernel_rfl
end Go.Proofs.Ytjhmlagkjpcjnaa
end

section
set_option linter.unusedVariables false
set_option linter.unusedSimpArgs false
namespace Go.Proofs.Ytjhmlagkjpcjnaa
open Go Reck Ost
theorem pLess_ok : PatOk 65 pLess := by
  intro tm σ C h K hK w0 e w hk vs hvs
  unfold pLess at h
  split at h
  · split at h
    · rename_i a b ha hb
      simp only [Option.some.injEq] at h; subst h
      obtain ⟨v, u, rfl, hv, hu⟩ := twos hvs
      refine knownC noOv names (conOk_ofR tbl0_ok) (show runR inv0 tbl0 65 [xi .i64 a, xi .i64 b] emptySt K from ?_) w0 e w hk [v, u] (by rw [List.map_cons, List.map_cons, List.map_nil, as_int ha hv, as_int hb hu]; rfl)
      rw [less_vc]
      exact ⟨fun h => absurd rfl h, fun _ => hK⟩
    · cases h
  · cases h
theorem at_cons (a : Int) (l : List Int) (m : Nat) : U.at (a :: l) ((m + 1 : Nat) : Int) = U.at l m := by
  unfold U.at; simp
theorem at_zero (a : Int) (l : List Int) : U.at (a :: l) ((0 : Nat) : Int) = a := rfl
theorem lo_cons (a : Int) (l : List Int) (k : Int) : U.lo (a :: l) k = if a < k then U.lo l k + 1 else 0 := by
  unfold U.lo
  rw [List.takeWhile_cons]
  by_cases h : a < k
  · simp [h]
  · simp [h]
theorem lo_nil (k : Int) : U.lo [] k = 0 := rfl
theorem lo_of : ∀ (A : List Int) (k : Int) (i : Nat), i ≤ A.length → (∀ m : Nat, m < i → U.at A m < k) → (∀ m : Nat, i ≤ m → m < A.length → ¬ U.at A m < k) → U.lo A k = i
  | [], k, i, h, _, _ => by simp at h; subst h; rfl
  | a :: l, k, 0, _, _, h => by
    rw [lo_cons, if_neg]; rfl
    exact h 0 (Nat.le_refl _) (by simp)
  | a :: l, k, i + 1, hn, h1, h2 => by
    rw [lo_cons, if_pos (show a < k from h1 0 (by omega)), lo_of l k i (by simpa using hn) (fun m hm => by have := h1 (m + 1) (by omega); rwa [at_cons] at this) (fun m hm hl => by have := h2 (m + 1) (by omega) (by simpa using hl); rwa [at_cons] at this)]
    rfl
theorem srt_cons {a : Int} {l : List Int} (h : U.Srt (a :: l)) : U.Srt l ∧ ∀ x ∈ l, a < x := by
  obtain ⟨h⟩ := h
  rw [List.pairwise_cons] at h
  exact ⟨⟨h.2⟩, h.1⟩
theorem lo_bd : ∀ (A : List Int) (k : Int), 0 ≤ U.lo A k ∧ U.lo A k ≤ A.length
  | [], k => ⟨Int.le_refl _, Int.le_refl _⟩
  | a :: l, k => by
    have := lo_bd l k
    rw [lo_cons, List.length_cons]
    split <;> omega
theorem has_lo : ∀ (A : List Int) (k : Int), U.Srt A → (U.Has A k ↔ U.lo A k < A.length ∧ U.at A (U.lo A k) = k)
  | [], k, _ => Iff.intro (fun ⟨h⟩ => absurd h (by simp)) (fun h => by have := h.1; simp [lo_nil] at this)
  | a :: l, k, hs => by
    obtain ⟨h1, h2⟩ := srt_cons hs
    have ih := has_lo l k h1
    have hb := lo_bd l k
    rw [lo_cons]
    by_cases h : a < k
    · rw [if_pos h]
      obtain ⟨z, hz⟩ : ∃ z : Nat, U.lo l k = z := ⟨(U.lo l k).toNat, by omega⟩
      rw [hz, show ((z : Int) + 1) = ((z + 1 : Nat) : Int) by omega, at_cons, List.length_cons]
      rw [hz] at ih
      constructor
      · intro ⟨hm⟩
        rcases List.mem_cons.1 hm with rfl | hm
        · omega
        · have := ih.1 ⟨hm⟩; exact ⟨by omega, this.2⟩
      · intro hm
        exact ⟨List.mem_cons_of_mem _ (ih.2 ⟨by omega, hm.2⟩).out⟩
    · rw [if_neg h]
      constructor
      · intro ⟨hm⟩
        rcases List.mem_cons.1 hm with rfl | hm
        · exact ⟨by rw [List.length_cons]; omega, rfl⟩
        · have := h2 k hm; omega
      · intro hm
        exact ⟨hm.2 ▸ List.mem_cons_self⟩
theorem bs_run (K : AV → St → Prop) (L : List Int) (o n c cap : Nat) (k : Int) (A : List Int) (h : U.Rg L o n c cap A) (hs : U.Srt A)
    (hK : ∀ z : Int, z = U.lo A k → (U.Has A k → K (.inr [.inl (xintC .i64 z), .inl (.inl (.bool true))]) ⟨[], [], 0, [some (ib L cap false)], 0⟩) ∧ (¬ U.Has A k → K (.inr [.inl (xintC .i64 z), .inl (.inl (.bool false))]) ⟨[], [], 0, [some (ib L cap false)], 0⟩)) :
    runR invBS tLess 59 [cell (aslC ⟨0, o, n, c⟩), xi .i64 k] ⟨[], [], 0, [some (ib L cap false)], 0⟩ K := by
  rw [bs_vc, ← h.eq]
  have hl := h.n
  have hlen := h.len
  have hsm := h.sm
  have sorted : ∀ (i j : Nat), i < j → j < A.length → U.at A i < U.at A j := by
    intro i j hij hj
    have := List.pairwise_iff_getElem.1 hs.out i j (by omega) hj hij
    unfold U.at
    rw [List.getD_eq_getElem?_getD, List.getD_eq_getElem?_getD, Int.toNat_natCast, Int.toNat_natCast, List.getElem?_eq_getElem (by omega), List.getElem?_eq_getElem hj]
    exact this
  intro z0 h0
  refine ⟨⟨(0, z0), ?_⟩, ?_⟩
  · repeat' (first | exact rfl | with_reducible apply And.intro)
    exact ⟨Int.le_refl _, by dsimp only; omega, by dsimp only; omega, fun m hm => by dsimp only at hm; omega, fun m hm hm2 => by dsimp only at hm; omega⟩
  rintro ⟨i, j⟩ ⟨b1, b2, b3, b4, b5⟩
  dsimp only at b1 b2 b3 b4 b5 ⊢
  refine ⟨fun hij z3 h3 z4 h4 => ⟨by decide, fun z5 h5 z6 h6 => ?_⟩, fun hij => ?_⟩
  · have e3 := iw h3 (by omega)
    have e4 : z4 = i + j := by
      rw [h4, e3]; show IntKind.wrap .u64 _ = _
      rw [IntKind.wrap]; simp [IntKind.signed, IntKind.bits]; omega
    have e5 : z5 = (i + j) / 2 := by
      rw [h5, e4]
      unfold shrI
      rw [show min (1 : Int).toNat (IntKind.bits .u64) = 1 from rfl, Int.fdiv_eq_ediv_of_nonneg _ (by decide)]
      rfl
    have e6 := iw h6 (by omega)
    refine ⟨by omega, fun j7 h7 => ⟨by omega, fun z8 h8 => ?_⟩⟩
    have e8 := h8.trans (h.get (i := z6) (by omega) h7)
    obtain ⟨p, hp⟩ : ∃ p : Nat, z6 = p := ⟨z6.toNat, by omega⟩
    rw [hp] at e8
    refine ⟨fun hlt z9 h9 => ⟨(z9, j), ?_⟩, fun hge => ⟨(i, z6), ?_⟩⟩
    · have e9 := iw h9 (by omega)
      repeat' (first | exact rfl | with_reducible apply And.intro)
      · refine ⟨by dsimp only; omega, by dsimp only; omega, b3, fun m hm => ?_, b5⟩
        dsimp only at hm
        by_cases hmp : m = p
        · rw [hmp, ← e8]; exact hlt
        · have := sorted m p (by omega) (by omega)
          omega
      · dsimp only; omega
    · repeat' (first | exact rfl | with_reducible apply And.intro)
      · refine ⟨b1, by dsimp only; omega, by dsimp only; omega, b4, fun m hm hm2 => ?_⟩
        dsimp only at hm
        by_cases hmp : m = p
        · rw [hmp, ← e8]; exact hge
        · have := sorted p m (by omega) hm2
          omega
      · dsimp only; omega
  · obtain rfl : i = j := by omega
    obtain ⟨p, hp⟩ : ∃ p : Nat, i = p := ⟨i.toNat, by omega⟩
    have hlo : U.lo A k = p := lo_of A k p (by omega) (fun m hm => b4 m (by omega)) (fun m hm hm2 => b5 m (by omega) hm2)
    have hK := hK i (by rw [hlo, hp])
    have hh := has_lo A k hs
    rw [hlo, ← hp] at hh
    refine ⟨fun hlt => ⟨by omega, fun j12 h12 => ⟨by omega, fun z13 h13 => ?_⟩⟩, fun hge => hK.2 (fun hx => by have := (hh.1 hx).1; omega)⟩
    have e13 := h13.trans (h.get (i := i) (by omega) h12)
    refine ⟨fun heq => hK.1 (hh.2 ⟨by omega, e13 ▸ heq⟩), fun hne => ⟨by omega, fun j14 h14 => ⟨by omega, fun z15 h15 => ⟨fun hx => absurd rfl hx, fun _ => hK.2 (fun hx => hne (e13.trans (hh.1 hx).2))⟩⟩⟩⟩
theorem pBS_ok : PatOk 59 pBS := by
  intro tm σ C h K hK w0 e w hk vs hvs
  unfold pBS at h
  split at h
  · split at h
    · rename_i hs hi
      obtain rfl := aslX_eq hs
      simp only [Option.some.injEq] at h; subst h
      obtain ⟨A, ⟨h1, h2⟩, h3⟩ := hK
      obtain ⟨v, u, rfl, hv, hu⟩ := twos hvs
      exact knownC noOv names (conOk_ofR (tblIf_ok pLess_ok)) (bs_run K _ _ _ _ _ _ A h1 h2 h3) w0 e w hk [v, u] (by rw [List.map_cons, List.map_cons, List.map_nil, hv, as_int hi hu]; rfl)
    · cases h
  · cases h
theorem tSN_ok : TblOk Try.prog tSN := tblOr_ok (tblIf_ok pBS_ok) (tblIf_ok pIns_ok)
end Go.Proofs.Ytjhmlagkjpcjnaa
end

section
set_option linter.unusedVariables false
set_option linter.unusedSimpArgs false
namespace Go.Proofs.Ytjhmlagkjpcjnaa
open Go Reck Ost
abbrev Prs := List (Int × Int)
def U.ks (P : Prs) : List Int := P.map Prod.fst
def U.vs (P : Prs) : List Int := P.map Prod.snd
def U.put : Prs → Int → Int → Prs
  | [], k, v => [(k, v)]
  | p :: P, k, v => if p.1 < k then p :: U.put P k v else if p.1 = k then (k, v) :: P else (k, v) :: p :: P
structure U.HasK (P : Prs) (k : Int) : Prop where
  out : U.Has (U.ks P) k
def U.up (P : Prs) (k : Int) : Int := if k ∈ U.ks P then U.lo (U.ks P) k + 1 else U.lo (U.ks P) k
/-- What a shelf has. -/
structure U.shI (n c cap : Nat) (L : List Int) (d dap : Nat) (M : List Int) (P : Prs) : Prop where
  kr : U.Rg L 0 n c cap (U.ks P)
  vr : U.Rg M 0 n d dap (U.vs P)
  srt : U.Srt (U.ks P)
  cm : c ≤ 9223372036854775807 ∧ d ≤ 9223372036854775807
theorem ins_zero (l : List Int) (v : Int) : U.ins l 0 v = v :: l := rfl
theorem ins_cons (a : Int) (l : List Int) (j v : Int) (hj : 0 ≤ j) : U.ins (a :: l) (j + 1) v = a :: U.ins l j v := by
  unfold U.ins
  rw [show (j + 1).toNat = j.toNat + 1 by omega]; rfl
theorem put_fst : ∀ (P : Prs) (k v : Int), U.Srt (U.ks P) → (U.Has (U.ks P) k → U.ks (U.put P k v) = U.ks P ∧ U.vs (U.put P k v) = (U.vs P).set (U.lo (U.ks P) k).toNat v) ∧ (¬ U.Has (U.ks P) k → U.ks (U.put P k v) = U.ins (U.ks P) (U.lo (U.ks P) k) k ∧ U.vs (U.put P k v) = U.ins (U.vs P) (U.lo (U.ks P) k) v)
  | [], k, v, _ => ⟨fun ⟨h⟩ => absurd h (by simp [U.ks]), fun _ => ⟨rfl, rfl⟩⟩
  | p :: P, k, v, hs => by
    obtain ⟨h1, h2⟩ := srt_cons (a := p.1) (l := U.ks P) hs
    obtain ⟨i1, i2⟩ := put_fst P k v h1
    have hb := lo_bd (U.ks P) k
    have e : U.ks (p :: P) = p.1 :: U.ks P := rfl
    have e' : U.vs (p :: P) = p.2 :: U.vs P := rfl
    by_cases h : p.1 < k
    · have ep : U.put (p :: P) k v = p :: U.put P k v := by rw [U.put, if_pos h]
      have eh : U.Has (U.ks (p :: P)) k ↔ U.Has (U.ks P) k := ⟨fun ⟨hx⟩ => by
        rcases List.mem_cons.1 hx with hx | hx
        · omega
        · exact ⟨hx⟩, fun ⟨hx⟩ => ⟨List.mem_cons_of_mem _ hx⟩⟩
      rw [eh, ep, e, e', lo_cons, if_pos h]
      refine ⟨fun hx => ?_, fun hx => ?_⟩
      · obtain ⟨j1, j2⟩ := i1 hx
        refine ⟨by show p.1 :: U.ks _ = _; rw [j1], ?_⟩
        show p.2 :: U.vs _ = _
        rw [j2, show (U.lo (U.ks P) k + 1).toNat = (U.lo (U.ks P) k).toNat + 1 by omega]; rfl
      · obtain ⟨j1, j2⟩ := i2 hx
        rw [ins_cons _ _ _ _ hb.1, ins_cons _ _ _ _ hb.1, ← j1, ← j2]
        exact ⟨rfl, rfl⟩
    · rw [e, e', lo_cons, if_neg h]
      by_cases hk : p.1 = k
      · have ep : U.put (p :: P) k v = (k, v) :: P := by rw [U.put, if_neg h, if_pos hk]
        rw [ep]
        exact ⟨fun _ => ⟨by show k :: U.ks P = p.1 :: U.ks P; rw [hk], rfl⟩, fun hx => (hx ⟨by rw [hk]; exact List.mem_cons_self⟩).elim⟩
      · have ep : U.put (p :: P) k v = (k, v) :: p :: P := by rw [U.put, if_neg h, if_neg hk]
        rw [ep]
        refine ⟨fun ⟨hx⟩ => ?_, fun _ => ⟨rfl, rfl⟩⟩
        rcases List.mem_cons.1 hx with hx | hx
        · omega
        · have := h2 k hx; omega
theorem ins_srt : ∀ (A : List Int) (k : Int), U.Srt A → ¬ U.Has A k → U.Srt (U.ins A (U.lo A k) k)
  | [], k, _, _ => ⟨by simp [U.ins]⟩
  | a :: l, k, hs, hh => by
    obtain ⟨h1, h2⟩ := srt_cons hs
    have hb := lo_bd l k
    rw [lo_cons]
    by_cases h : a < k
    · rw [if_pos h, ins_cons _ _ _ _ hb.1]
      have ih := ins_srt l k h1 (fun ⟨hx⟩ => hh ⟨List.mem_cons_of_mem _ hx⟩)
      refine ⟨List.pairwise_cons.2 ⟨fun x hx => ?_, ih.out⟩⟩
      unfold U.ins at hx
      simp only [List.mem_append, List.mem_singleton] at hx
      rcases hx with (hx | hx) | hx
      · exact h2 x (List.mem_of_mem_take hx)
      · omega
      · exact h2 x (List.mem_of_mem_drop hx)
    · rw [if_neg h, ins_zero]
      refine ⟨List.pairwise_cons.2 ⟨fun x hx => ?_, hs.out⟩⟩
      have hne : ¬ a = k := fun he => hh ⟨he ▸ List.mem_cons_self⟩
      rcases List.mem_cons.1 hx with hx | hx
      · omega
      · have := h2 x hx; omega
theorem put_mem : ∀ (P : Prs) (k v x y : Int), U.Srt (U.ks P) → ((x, y) ∈ U.put P k v ↔ (x = k ∧ y = v) ∨ ((x, y) ∈ P ∧ x ≠ k))
  | [], k, v, x, y, _ => by simp [U.put]
  | p :: P, k, v, x, y, hs => by
    obtain ⟨h1, h2⟩ := srt_cons (a := p.1) (l := U.ks P) hs
    have ih := put_mem P k v x y h1
    have hm : (x, y) ∈ P → p.1 < x := fun hx => h2 x (List.mem_map.2 ⟨(x, y), hx, rfl⟩)
    rw [U.put]
    by_cases h : p.1 < k
    · rw [if_pos h, List.mem_cons, ih, List.mem_cons]
      constructor
      · rintro (hx | hx | hx)
        · exact .inr ⟨.inl hx, by have := congrArg Prod.fst hx; dsimp only at this; omega⟩
        · exact .inl hx
        · exact .inr ⟨.inr hx.1, hx.2⟩
      · rintro (hx | ⟨hx | hx, hy⟩)
        · exact .inr (.inl hx)
        · exact .inl hx
        · exact .inr (.inr ⟨hx, hy⟩)
    · rw [if_neg h]
      by_cases hk : p.1 = k
      · rw [if_pos hk, List.mem_cons, List.mem_cons]
        constructor
        · rintro (hx | hx)
          · exact .inl ⟨congrArg Prod.fst hx, congrArg Prod.snd hx⟩
          · exact .inr ⟨.inr hx, by have := hm hx; omega⟩
        · rintro (⟨rfl, rfl⟩ | ⟨hx | hx, hy⟩)
          · exact .inl rfl
          · exact absurd ((congrArg Prod.fst hx).trans hk) hy
          · exact .inr hx
      · rw [if_neg hk, List.mem_cons, List.mem_cons]
        constructor
        · rintro (hx | hx | hx)
          · exact .inl ⟨congrArg Prod.fst hx, congrArg Prod.snd hx⟩
          · exact .inr ⟨.inl hx, by have := congrArg Prod.fst hx; dsimp only at this; omega⟩
          · exact .inr ⟨.inr hx, by have := hm hx; omega⟩
        · rintro (⟨rfl, rfl⟩ | ⟨hx | hx, hy⟩)
          · exact .inl rfl
          · exact .inr (.inl hx)
          · exact .inr (.inr hx)
theorem put_srt (P : Prs) (k v : Int) (hs : U.Srt (U.ks P)) : U.Srt (U.ks (U.put P k v)) := by
  obtain ⟨h1, h2⟩ := put_fst P k v hs
  by_cases h : U.Has (U.ks P) k
  · rw [(h1 h).1]; exact hs
  · rw [(h2 h).1]; exact ins_srt _ _ hs h
theorem shSet_run (K : AV → St → Prop) (L M : List Int) (n c cap d dap : Nat) (m k v : Int) (P : Prs) (h : U.shI n c cap L d dap M P) (hn : n ≤ 1000) (hm : (n : Int) < m)
    (h1 : U.HasK P k → ∀ M' : List Int, U.shI n c cap L d dap M' (U.put P k v) → K (xi .i64 0) (shSt n c cap L d dap M' m))
    (h2 : ¬ U.HasK P k → ∀ (L' : List Int) (n' c' : Nat) (M' : List Int) (d' : Nat), n' = n + 1 → U.shI n' c' c' L' d' d' M' (U.put P k v) → K (xi .i64 0) ⟨[shB (aslC ⟨2, 0, n', c'⟩) (aslC ⟨3, 0, n', d'⟩) m], [], 0, [none, none, some (ib L' c' false), some (ib M' d' false)], 0⟩) :
    runR inv0 tSN 22 [ptr 0 0, xi .i64 k, xi .i64 v] (shSt n c cap L d dap M m) K := by
  rw [shSet_vc]
  obtain ⟨kr, vr, srt, cm⟩ := h
  have hl := kr.n
  have hb := lo_bd (U.ks P) k
  have hh := has_lo (U.ks P) k srt
  obtain ⟨p1, p2⟩ := put_fst P k v srt
  have ps := put_srt P k v srt
  have kl := vr.len
  refine ⟨U.ks P, ⟨kr, srt⟩, fun z hz => ⟨fun hx => ⟨by have := (hh.1 hx).1; omega, fun j2 hj2 => ⟨by have := (hh.1 hx).1; omega, fun l3 h3 => h1 ⟨hx⟩ l3 ?_⟩⟩, fun hx z4 h4 => ⟨fun hfull => by omega, fun _ => ⟨U.ks P, ⟨kr, by omega, by omega, cm.1⟩, fun L' n' c' e1 e2 e3 => ⟨U.vs P, ⟨vr, by omega, by omega, cm.2⟩, fun M' n2 d' e4 e5 e6 => ?_⟩⟩⟩⟩⟩
  · obtain ⟨q1, q2⟩ := p1 hx
    refine ⟨by rw [q1]; exact kr, ?_, ps, cm⟩
    obtain ⟨v1, v2, v3, v4, v5⟩ := vr
    refine ⟨?_, by rw [h3, List.length_set]; exact v2, v3, v4, v5⟩
    rw [q2, h3, v1, List.drop_zero, List.drop_zero, List.take_set]
    congr 1
    omega
  · obtain ⟨q1, q2⟩ := p2 hx
    obtain rfl : n' = n2 := by omega
    exact h2 (fun ⟨hy⟩ => hx hy) L' n' c' M' d' e1 ⟨by rw [q1, ← hz]; exact e3, by rw [q2, ← hz]; exact e6, ps, e2, e5⟩
theorem shKeys_run (K : AV → St → Prop) (L M : List Int) (n c cap d dap : Nat) (m : Int) (P : Prs) (h : U.shI n c cap L d dap M P)
    (h1 : ∀ (L' : List Int) (n' c' : Nat), n' = n → U.Rg L' 0 n' c' c' (U.ks P) → K (cell (aslC ⟨2, 0, n', c'⟩)) ⟨[shB (aslC ⟨0, 0, n, c⟩) (aslC ⟨1, 0, n, d⟩) m], [], 0, [some (ib L cap false), some (ib M dap false), some (ib L' c' false)], 0⟩) :
    runR inv0 tSN 23 [ptr 0 0] (shSt n c cap L d dap M m) K := by
  rw [shKeys_vc]
  have hA := h.kr.n
  have hs := h.kr.sm
  refine ⟨fun g => h1 [] 0 0 (by omega) ?_, trivial, h.kr.len, by decide, h.kr.sm, fun l' n' c' q1 q2 q3 => h1 l' n' c' (by omega) ?_⟩
  · have : U.ks P = [] := List.eq_nil_of_length_eq_zero (by omega)
    rw [this]
    exact U.Rg.all rfl (Nat.le_refl _) (Nat.le_refl _) (by decide)
  · have e : l' = U.ks P := by rw [q1, List.nil_append, h.kr.eq]
    rw [e]
    exact U.Rg.all (by omega) q3 (Nat.le_refl _) (by omega)
theorem shVals_run (K : AV → St → Prop) (L M : List Int) (n c cap d dap : Nat) (m : Int) (P : Prs) (h : U.shI n c cap L d dap M P)
    (h1 : ∀ (L' : List Int) (n' c' : Nat), n' = n → U.Rg L' 0 n' c' c' (U.vs P) → K (cell (aslC ⟨2, 0, n', c'⟩)) ⟨[shB (aslC ⟨0, 0, n, c⟩) (aslC ⟨1, 0, n, d⟩) m], [], 0, [some (ib L cap false), some (ib M dap false), some (ib L' c' false)], 0⟩) :
    runR inv0 tSN 24 [ptr 0 0] (shSt n c cap L d dap M m) K := by
  rw [shVals_vc]
  have hA := h.vr.n
  have hs := h.vr.sm
  refine ⟨fun g => h1 [] 0 0 (by omega) ?_, trivial, h.vr.len, by decide, h.vr.sm, fun l' n' c' q1 q2 q3 => h1 l' n' c' (by omega) ?_⟩
  · have : U.vs P = [] := List.eq_nil_of_length_eq_zero (by omega)
    rw [this]
    exact U.Rg.all rfl (Nat.le_refl _) (Nat.le_refl _) (by decide)
  · have e : l' = U.vs P := by rw [q1, List.nil_append, h.vr.eq]
    rw [e]
    exact U.Rg.all (by omega) q3 (Nat.le_refl _) (by omega)
abbrev nxA (k v : Int) (b : Bool) : AV := .inr [.inl (xintC .i64 k), .inl (xintC .i64 v), .inl (.inl (.bool b))]
theorem shNext_run (K : AV → St → Prop) (L M : List Int) (n c cap d dap : Nat) (m k : Int) (P : Prs) (h : U.shI n c cap L d dap M P)
    (h1 : U.up P k < n → ∀ z y : Int, z = U.at (U.ks P) (U.up P k) → y = U.at (U.vs P) (U.up P k) → K (nxA z y true) (shSt n c cap L d dap M m)) (h0 : ¬ U.up P k < n → K (nxA k 0 false) (shSt n c cap L d dap M m)) :
    runR inv0 tSN 30 [ptr 0 0, xi .i64 k] (shSt n c cap L d dap M m) K := by
  rw [shNext_vc]
  obtain ⟨kr, vr, srt, cm⟩ := h
  have hl := kr.n
  have hb := lo_bd (U.ks P) k
  have kl := vr.len
  have kk := kr.len
  have hsm := kr.sm
  refine ⟨U.ks P, ⟨kr, srt⟩, fun z hz => ⟨fun hx z2 h2 z3 h3 => ?_, fun hx z8 h8 => ?_⟩⟩
  · have e2 := iw h2 (by omega)
    have hu : U.up P k = z2 := by unfold U.up; rw [if_pos hx.out]; omega
    rw [hu] at h1 h0
    refine ⟨fun g => h0 (by omega), fun g => ⟨by omega, fun j4 h4 => ⟨by omega, fun z5 h5 => ⟨by omega, fun j6 h6 => ⟨by omega, fun z7 h7 => h1 (by omega) z5 z7 (h5.trans (kr.get (by omega) h4)) (h7.trans (vr.get (by omega) h6))⟩⟩⟩⟩⟩
  · have hu : U.up P k = z := by unfold U.up; rw [if_neg (fun hy => hx ⟨hy⟩)]; omega
    rw [hu] at h1 h0
    refine ⟨fun g => h0 (by omega), fun g => ⟨by omega, fun j4 h4 => ⟨by omega, fun z5 h5 => ⟨by omega, fun j6 h6 => ⟨by omega, fun z7 h7 => h1 (by omega) z5 z7 (h5.trans (kr.get (by omega) h4)) (h7.trans (vr.get (by omega) h6))⟩⟩⟩⟩⟩
end Go.Proofs.Ytjhmlagkjpcjnaa
end

section
set_option linter.unusedVariables false
set_option linter.unusedSimpArgs false
namespace Go.Proofs.Ytjhmlagkjpcjnaa
open Go Reck Ost
def pSet : Pat := fun args σ => match args, σ with
  | [.inl (.inl (.inr (.inl (0, 0)))), k, v], ⟨[some ⟨82, [a, b, m], none, 3, false⟩], [], 0, [some ⟨3, .n .i64, L, cap, false⟩, some ⟨3, .n .i64, M, dap, false⟩], 0⟩ =>
    match aslX (cell a), aslX (cell b), xiX (cell m), intX k, intX v with
    | some ⟨0, 0, n, c⟩, some ⟨1, 0, n2, d⟩, some (.i64, m), some (.i64, k), some (.i64, v) => some fun K => ∃ P, (n2 = n ∧ U.shI n c cap L d dap M P ∧ n ≤ 1000 ∧ (n : Int) < m) ∧
      (U.HasK P k → ∀ M' : List Int, U.shI n c cap L d dap M' (U.put P k v) → K (xi .i64 0) ⟨[shB (aslC ⟨0, 0, n, c⟩) (aslC ⟨1, 0, n2, d⟩) m], [], 0, [some (ib L cap false), some (ib M' dap false)], 0⟩) ∧
      (¬ U.HasK P k → ∀ (L' : List Int) (n' c' : Nat) (M' : List Int) (d' : Nat), n' = n + 1 → U.shI n' c' c' L' d' d' M' (U.put P k v) → K (xi .i64 0) ⟨[shB (aslC ⟨2, 0, n', c'⟩) (aslC ⟨3, 0, n', d'⟩) m], [], 0, [none, none, some (ib L' c' false), some (ib M' d' false)], 0⟩)
    | _, _, _, _, _ => none
  | _, _ => none
theorem three_map {e : Env} {x y z : AV} {a b c : Value} (h1 : Reck.av e x = some a) (h2 : Reck.av e y = some b) (h3 : Reck.av e z = some c) : [x, y, z].map (Reck.av e) = [a, b, c].map some := by
  rw [List.map_cons, List.map_cons, List.map_cons, List.map_nil, h1, h2, h3]; rfl
theorem two_map {e : Env} {x y : AV} {a b : Value} (h1 : Reck.av e x = some a) (h2 : Reck.av e y = some b) : [x, y].map (Reck.av e) = [a, b].map some := by
  rw [List.map_cons, List.map_cons, List.map_nil, h1, h2]; rfl
theorem pSet_ok : PatOk 22 pSet := by
  intro tm σ C h K hK w0 e w hk vs hvs
  unfold pSet at h
  split at h
  · split at h
    · rename_i ha hb hm hkk hv
      obtain rfl := cell_inj (aslX_eq ha)
      obtain rfl := cell_inj (aslX_eq hb)
      obtain rfl := cell_inj (xiX_eq hm)
      simp only [Option.some.injEq] at h; subst h
      obtain ⟨P, ⟨rfl, h1, h2, h3⟩, h4, h5⟩ := hK
      obtain ⟨x, y, z, rfl, q1, q2, q3⟩ := threes hvs
      exact knownC noOv names (conOk_ofR tSN_ok) (shSet_run K _ _ _ _ _ _ _ _ _ _ P h1 h2 h3 h4 h5) w0 e w hk _ (three_map q1 (as_int hkk q2) (as_int hv q3))
    · cases h
  · cases h
def pKeys (sel : Prs → List Int) : Pat := fun args σ => match args, σ with
  | [.inl (.inl (.inr (.inl (0, 0))))], ⟨[some ⟨82, [a, b, m], none, 3, false⟩], [], 0, [some ⟨3, .n .i64, L, cap, false⟩, some ⟨3, .n .i64, M, dap, false⟩], 0⟩ =>
    match aslX (cell a), aslX (cell b), xiX (cell m) with
    | some ⟨0, 0, n, c⟩, some ⟨1, 0, n2, d⟩, some (.i64, m) => some fun K => ∃ P, (n2 = n ∧ U.shI n c cap L d dap M P) ∧ ∀ (L' : List Int) (n' c' : Nat), n' = n → U.Rg L' 0 n' c' c' (sel P) → K (cell (aslC ⟨2, 0, n', c'⟩)) ⟨[shB (aslC ⟨0, 0, n, c⟩) (aslC ⟨1, 0, n2, d⟩) m], [], 0, [some (ib L cap false), some (ib M dap false), some (ib L' c' false)], 0⟩
    | _, _, _ => none
  | _, _ => none
theorem pKeys_ok : PatOk 23 (pKeys U.ks) := by
  intro tm σ C h K hK w0 e w hk vs hvs
  unfold pKeys at h
  split at h
  · split at h
    · rename_i ha hb hm
      obtain rfl := cell_inj (aslX_eq ha)
      obtain rfl := cell_inj (aslX_eq hb)
      obtain rfl := cell_inj (xiX_eq hm)
      simp only [Option.some.injEq] at h; subst h
      obtain ⟨P, ⟨rfl, h1⟩, h2⟩ := hK
      exact knownC noOv names (conOk_ofR tSN_ok) (shKeys_run K _ _ _ _ _ _ _ _ P h1 h2) w0 e w hk vs hvs
    · cases h
  · cases h
theorem pVals_ok : PatOk 24 (pKeys U.vs) := by
  intro tm σ C h K hK w0 e w hk vs hvs
  unfold pKeys at h
  split at h
  · split at h
    · rename_i ha hb hm
      obtain rfl := cell_inj (aslX_eq ha)
      obtain rfl := cell_inj (aslX_eq hb)
      obtain rfl := cell_inj (xiX_eq hm)
      simp only [Option.some.injEq] at h; subst h
      obtain ⟨P, ⟨rfl, h1⟩, h2⟩ := hK
      exact knownC noOv names (conOk_ofR tSN_ok) (shVals_run K _ _ _ _ _ _ _ _ P h1 h2) w0 e w hk vs hvs
    · cases h
  · cases h
def pNext : Pat := fun args σ => match args, σ with
  | [.inl (.inl (.inr (.inl (0, 0)))), k], ⟨[some ⟨82, [a, b, m], none, 3, false⟩], [], 0, [some ⟨3, .n .i64, L, cap, false⟩, some ⟨3, .n .i64, M, dap, false⟩], 0⟩ =>
    match aslX (cell a), aslX (cell b), xiX (cell m), intX k with
    | some ⟨0, 0, n, c⟩, some ⟨1, 0, n2, d⟩, some (.i64, m), some (.i64, k) => some fun K => ∃ P, (n2 = n ∧ U.shI n c cap L d dap M P) ∧
      (U.up P k < n → ∀ z y : Int, z = U.at (U.ks P) (U.up P k) → y = U.at (U.vs P) (U.up P k) → K (nxA z y true) ⟨[shB (aslC ⟨0, 0, n, c⟩) (aslC ⟨1, 0, n2, d⟩) m], [], 0, [some (ib L cap false), some (ib M dap false)], 0⟩) ∧
      (¬ U.up P k < n → K (nxA k 0 false) ⟨[shB (aslC ⟨0, 0, n, c⟩) (aslC ⟨1, 0, n2, d⟩) m], [], 0, [some (ib L cap false), some (ib M dap false)], 0⟩)
    | _, _, _, _ => none
  | _, _ => none
theorem pNext_ok : PatOk 30 pNext := by
  intro tm σ C h K hK w0 e w hk vs hvs
  unfold pNext at h
  split at h
  · split at h
    · rename_i ha hb hm hkk
      obtain rfl := cell_inj (aslX_eq ha)
      obtain rfl := cell_inj (aslX_eq hb)
      obtain rfl := cell_inj (xiX_eq hm)
      simp only [Option.some.injEq] at h; subst h
      obtain ⟨P, ⟨rfl, h1⟩, h2, h3⟩ := hK
      obtain ⟨x, y, rfl, q1, q2⟩ := twos hvs
      exact knownC noOv names (conOk_ofR tSN_ok) (shNext_run K _ _ _ _ _ _ _ _ _ P h1 h2 h3) w0 e w hk _ (two_map q1 (as_int hkk q2))
    · cases h
  · cases h
def pNewSh : Pat := fun args σ => match args, σ with
  | [m], ⟨[], [], 0, [], 0⟩ => match intX m with
    | some (.i64, m) => some fun K => ∀ m' : Int, m' = m → K (ptr 0 0) ⟨[shB (aslC ⟨0, 0, 0, 0⟩) (aslC ⟨1, 0, 0, 0⟩) m'], [], 0, [some (ib [] 0 false), some (ib [] 0 false)], 0⟩
    | _ => none
  | _, _ => none
theorem pNewSh_ok : PatOk 21 pNewSh := by
  intro tm σ C h K hK w0 e w hk vs hvs
  unfold pNewSh at h
  split at h
  · split at h
    · rename_i m hm
      simp only [Option.some.injEq] at h; subst h
      obtain ⟨v, rfl, hv⟩ := ones hvs
      refine calls_nil (K' := fun x σ' => x = ptr 0 0 ∧ σ' = ⟨[shB (aslC ⟨0, 0, 0, 0⟩) nilC m], [], 0, [some (ib [] 0 false)], 0⟩) 3 .i64 (calls_nil (K' := fun x σ' => x = ptr 0 0 ∧ σ' = ⟨[shB nilC nilC m], [], 0, [], 0⟩) 3 .i64 (knownC noOv names (conOk_ofR tbl0_ok) (show runR inv0 tbl0 21 [xi .i64 m] emptySt _ from ?_) w0 e w hk [v] (by rw [List.map_cons, List.map_nil, as_int hm hv]; rfl)) ?_) ?_
      · rw [newSh_vc]; exact ⟨rfl, rfl⟩
      · rintro x σ' ⟨rfl, rfl⟩
        exact .inr (.inr ⟨0, 0, _, rfl, rfl, rfl, rfl⟩)
      · rintro x σ' ⟨rfl, rfl⟩
        exact .inr (.inr ⟨0, 1, _, rfl, rfl, hK _ rfl⟩)
    · cases h
  · cases h
def tSN4 : Tbl := tblOr (tblIf 22 pSet) (tblOr (tblIf 23 (pKeys U.ks)) (tblOr (tblIf 24 (pKeys U.vs)) (tblOr (tblIf 30 pNext) (tblOr (tblIf 21 pNewSh) (tblIf 12 pRSame)))))
theorem tSN4_ok : TblOk Try.prog tSN4 := tblOr_ok (tblIf_ok pSet_ok) (tblOr_ok (tblIf_ok pKeys_ok) (tblOr_ok (tblIf_ok pVals_ok) (tblOr_ok (tblIf_ok pNext_ok) (tblOr_ok (tblIf_ok pNewSh_ok) (tblIf_ok pRSame_ok)))))
end Go.Proofs.Ytjhmlagkjpcjnaa
end
