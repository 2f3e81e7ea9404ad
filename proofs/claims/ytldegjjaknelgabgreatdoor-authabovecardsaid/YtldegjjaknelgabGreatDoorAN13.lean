/-
  The document's Get of a value, by a contract.
  Levels that are parsed are not too many.
  Which events the rules allow: as plain functions.
  Events that are nowhere too long.
  States and what is heard, as they lie in memory.
  Structs of any size that are loaded, or stored, as one operation; rows that are loaded in a region that draws.
  Whether no two of a row are the same, by a set: a contract.
  A map or list that is being made, a key and a value after another: what lies in memory.
-/
import Derived.Test.YtldegjjaknelgabGreatDoorAN12
import Derived.Deep.MidRow
import Derived.Laws.Tables
import Derived.Laws.OwnMore
set_option maxRecDepth 100000
set_option maxHeartbeats 16000000
namespace Go.Proofs.YtldegjjaknelgabGreatDoor
open Go.RowKit
theorem lookJ_step : ∀ {ks : List ByteArray} {l : List J} {s : ByteArray} {n : Nat}, n < ks.length → n < l.length → (∀ m, m < n → ((ks.getD m nix).toList == s.toList) = false) → ((ks.getD n nix).toList == s.toList) = true → lookV ks l s = some (l.getD n J.zero)
 | [], _, _, _, h, _, _, _ => absurd h (by simp)
 | _ :: _, [], _, _, _, h, _, _ => absurd h (by simp)
 | k :: ks, v :: l, s, 0, _, _, _, he => by
  have he : (k.toList == s.toList) = true := by simpa using he
  unfold lookV
  rw [if_pos he]
  simp
 | k :: ks, v :: l, s, n + 1, h1, h2, hm, he => by
  have h0 : (k.toList == s.toList) = false := by have := hm 0 (by omega); simpa using this
  unfold lookV
  rw [h0, if_neg (by decide), lookJ_step (n := n) (by simpa using h1) (by simpa using h2) (fun m h => by have := hm (m + 1) (by omega); simpa using this) (by simpa using he)]
  simp
theorem lookJ_miss : ∀ {ks : List ByteArray} {l : List J} {s : ByteArray}, (∀ m, m < ks.length → m < l.length → ((ks.getD m nix).toList == s.toList) = false) → lookV ks l s = none
 | [], _, _, _ => by unfold lookV; rfl
 | _ :: _, [], _, _ => by unfold lookV; rfl
 | k :: ks, v :: l, s, h => by
  have h0 : (k.toList == s.toList) = false := by have := h 0 (by simp) (by simp); simpa using this
  unfold lookV
  rw [h0, if_neg (by decide)]
  exact lookJ_miss fun m h1 h2 => by have := h (m + 1) (by simpa using h1) (by simpa using h2); simpa using this
theorem szP_keys {d : Nat} {j : J} (h : szJ (d + 1) j = true) : j.ks.length ≤ 100000 := by
 obtain ⟨k, i, t, ks, l⟩ := j
 unfold szJ at h
 simp only [Bool.and_eq_true, decide_eq_true_eq] at h
 exact h.2.1
theorem row_sz {d : Nat} {j : J} (hok : OkJ (d + 2) j) (fit : ByteArray → Bool) (s : ByteArray) : SzN (rowT fit (lookV j.ks j.ls s)).1 := by
 cases h : lookV j.ks j.ls s with
 | none => exact ⟨by simp [rowT], fun p hp => by simp [rowT] at hp⟩
 | some v =>
  have hv : OkJ (d + 1) v := by
   obtain ⟨_, _, _, _, _⟩ := j
   exact hok.parts.2.2.2.2.2 v (lookJ_mem h)
  obtain ⟨k, i, t, ks, l⟩ := v
  have hp := hv.parts
  simp only [rowT, rowsOf, J.ks, J.ls]
  refine ⟨by rw [List.length_map, List.length_zip]; omega, fun p hm => ?_⟩
  obtain ⟨q, hq, rfl⟩ := List.mem_map.1 hm
  exact hp.2.2.2.2.1 q.1 (List.of_mem_zip hq).1
theorem parse_sz {c : J} (hs : szJ 12 c = true) : SzL (parseT (ordT c)).1 := by
 have hok := ordT_okJ hs
 unfold parseT
 split
 · exact ⟨⟨by simp, fun p hp => by simp at hp⟩, ⟨by simp, fun p hp => by simp at hp⟩⟩
 · exact ⟨row_sz (d := 10) hok isU kByUser, row_sz (d := 10) hok isT kByType⟩
theorem parse_err (j : J) : (parseT j).2 = 0 ∨ (parseT j).2 = 1 := by
 unfold parseT
 split
 · exact .inr rfl
 · exact .inl rfl
abbrev tCreate : ByteArray := ⟨#[109, 46, 114, 111, 111, 109, 46, 99, 114, 101, 97, 116, 101]⟩
abbrev tMember : ByteArray := ⟨#[109, 46, 114, 111, 111, 109, 46, 109, 101, 109, 98, 101, 114]⟩
abbrev tPower : ByteArray := ⟨#[109, 46, 114, 111, 111, 109, 46, 112, 111, 119, 101, 114, 95, 108, 101, 118, 101, 108, 115]⟩
abbrev tRules : ByteArray := ⟨#[109, 46, 114, 111, 111, 109, 46, 106, 111, 105, 110, 95, 114, 117, 108, 101, 115]⟩
abbrev nCreator : ByteArray := ⟨#[99, 114, 101, 97, 116, 111, 114]⟩
abbrev nMemb : ByteArray := ⟨#[109, 101, 109, 98, 101, 114, 115, 104, 105, 112]⟩
abbrev nRule : ByteArray := ⟨#[106, 111, 105, 110, 95, 114, 117, 108, 101]⟩
abbrev vJoin : ByteArray := ⟨#[106, 111, 105, 110]⟩
abbrev vInvite : ByteArray := ⟨#[105, 110, 118, 105, 116, 101]⟩
abbrev vLeave : ByteArray := ⟨#[108, 101, 97, 118, 101]⟩
abbrev vBan : ByteArray := ⟨#[98, 97, 110]⟩
abbrev vPublic : ByteArray := ⟨#[112, 117, 98, 108, 105, 99]⟩
abbrev eqT (a b : ByteArray) : Bool := a.toList == b.toList
abbrev Kn := ByteArray × Ev
abbrev zK : Kn := (nix, Ev.zero)
def J.tx : J → ByteArray
 | .mk _ _ t _ _ => t
def txtT : Option J → ByteArray
 | some v => if v.kd = 3 then v.tx else nix
 | none => nix
def textT (c : J) (s : ByteArray) : ByteArray := txtT (getT c s)
def isAt (kind key : ByteArray) (k : Kn) : Bool := k.2.st && (eqT k.2.typ kind && eqT k.2.key key)
def findT (l : List Kn) (kind key : ByteArray) : Option Kn := l.find? (isAt kind key)
def textOfT (l : List Kn) (kind key under : ByteArray) : ByteArray := textT ((findT l kind key).getD zK).2.content under
def membT (l : List Kn) (u : ByteArray) : ByteArray := textOfT l tMember u nMemb
def createT (e : Ev) : Bool := e.st && (eqT e.key ⟨#[]⟩ && (decide (e.prev.length = 0) && (decide (e.auth.length = 0) && (eqT (Id.home e.room) (Id.home e.sender) && eqT (textT e.content nCreator) e.sender))))
def levT (l : List Kn) (creator : ByteArray) : Option Lv := match findT l tPower ⟨#[]⟩ with
 | some k => if (parseT (ordT k.2.content)).2 = 0 then some (parseT (ordT k.2.content)).1 else none
 | none => some (startL creator)
structure Hr where
 e : Ev
 st : List Kn
 cn : ByteArray
 ce : Ev
 l : Lv
 told : Bool
def Hr.own (h : Hr) : Bool := eqT h.e.key h.e.sender
def Hr.s (h : Hr) : Int := usr h.l h.e.sender
def Hr.t (h : Hr) : Int := usr h.l h.e.key
def Hr.joined (h : Hr) : Bool := eqT (membT h.st h.e.sender) vJoin
def Hr.target (h : Hr) : ByteArray := membT h.st h.e.key
def Hr.alone (h : Hr) : Bool := decide (h.e.prev.length = 1) && eqT (h.e.prev.getD 0 nix) h.cn
def Hr.joins (h : Hr) : Bool := h.own && ((h.alone && eqT h.ce.sender h.e.sender) || (!eqT h.target vBan && ((eqT h.target vJoin || eqT h.target vInvite) || eqT (textOfT h.st tRules ⟨#[]⟩ nRule) vPublic)))
def Hr.leaves (h : Hr) : Bool := if h.own then eqT h.target vJoin || eqT h.target vInvite else h.joined && (!(eqT h.target vBan && decide (h.s < h.l.ban)) && (decide (h.l.kick ≤ h.s) && decide (h.t < h.s)))
def Hr.invites (h : Hr) : Bool := h.joined && (!eqT h.target vJoin && (!eqT h.target vBan && decide (h.l.invite ≤ h.s)))
def Hr.bans (h : Hr) : Bool := h.joined && (decide (h.l.ban ≤ h.s) && decide (h.t < h.s))
def Hr.member (h : Hr) : Bool := (h.e.st && isU h.e.key) &&
 (if eqT (textT h.e.content nMemb) vJoin then h.joins else if eqT (textT h.e.content nMemb) vInvite then h.invites else if eqT (textT h.e.content nMemb) vLeave then h.leaves else if eqT (textT h.e.content nMemb) vBan then h.bans else false)
def Hr.changes (h : Hr) : Bool := decide ((parseT (ordT h.e.content)).2 = 0) && (!h.told || mayL h.l (parseT (ordT h.e.content)).1 h.e.sender)
def atT (s : ByteArray) : Bool := decide (1 ≤ s.size) && eqT (s.extract 0 1) ⟨#[64]⟩
def Hr.sends (h : Hr) : Bool := h.joined && (decide (kindL h.l h.e.typ h.e.st ≤ h.s) && (!((h.e.st && atT h.e.key) && !h.own) && (if (h.e.st && eqT h.e.typ tPower) && eqT h.e.key ⟨#[]⟩ then h.changes else true)))
def Hr.ask (h : Hr) : Bool := if eqT h.e.typ tMember then h.member else h.sends
def openT (e : Ev) (l : List Kn) : Option Hr := match findT l tCreate ⟨#[]⟩ with
 | none => none
 | some c => if eqT c.2.room e.room then (match levT l c.2.sender with | none => none | some v => some ⟨e, l, c.1, c.2, v, (findT l tPower ⟨#[]⟩).isSome⟩) else none
def askT (e : Ev) (l : List Kn) : Bool := if eqT e.typ tCreate then createT e else match openT e l with | none => false | some h => h.ask
def judgeT (e : Ev) (l : List Kn) : Int := if shapedE e then (if askT e l then 0 else 110) else 50
structure SzE (e : Ev) : Prop where
 room : e.room.size ≤ 1000000000
 typ : e.typ.size ≤ 1000000000
 sender : e.sender.size ≤ 1000000000
 key : e.key.size ≤ 1000000000
 hash : e.hash.size ≤ 1000000000
 cont : szJ 12 e.content = true
 prev : e.prev.length ≤ 100000
 prevs : ∀ x ∈ e.prev, x.size ≤ 1000000000
 auth : e.auth.length ≤ 100000
 auths : ∀ x ∈ e.auth, x.size ≤ 1000000000
 sigs : e.sigs.length ≤ 100000
 sigss : ∀ x ∈ e.sigs, x.1.size ≤ 1000000000 ∧ x.2.size ≤ 1000000000
def cellsK (k : Kn) (p : Pt) : List Value := .string k.1 :: cellsE k.2 p
def valK (k : Kn) (p : Pt) : Value := .agg (cellsK k p).toArray
def RdE (O : Nat → Prop) (w : World) (p : Option Addr) (c : Nat) (l : List Kn) : Prop :=
 l.length ≤ c ∧ ∀ j, j < l.length → ∃ b o q, p = some ⟨b, o, none⟩ ∧ O b ∧ (∀ n v, (cellsK (l.getD j zK) q)[n]? = some v → w.cell? ⟨b, o + j * 17 + n, none⟩ = some v) ∧ IsE O w (l.getD j zK).2 q
theorem RdE.carry {O O' : Nat → Prop} {w w' : World} {p : Option Addr} {c : Nat} {l : List Kn} (h : RdE O w p c l) (hO : ∀ k, O k → O' k ∧ w'.heap[k]? = w.heap[k]?) : RdE O' w' p c l :=
 ⟨h.1, fun j hj => by
  obtain ⟨b, o, q, hp, hB, h1, h2⟩ := h.2 j hj
  exact ⟨b, o, q, hp, (hO _ hB).1, fun n v hv => (World.cell?_of_block (a := ⟨b, o + j * 17 + n, none⟩) (hO _ hB).2).trans (h1 n v hv), h2.carry hO⟩⟩
theorem RdE.nil (O : Nat → Prop) (w : World) (p : Option Addr) (c : Nat) : RdE O w p c [] := ⟨Nat.zero_le _, fun j hj => absurd hj (by simp)⟩
structure SzK (l : List Kn) : Prop where
 len : l.length ≤ 100000
 cont : ∀ k ∈ l, szJ 13 k.2.content = true
 snd : ∀ k ∈ l, k.2.sender.size ≤ 1000000000
theorem getK_mem {l : List Kn} {j : Nat} (h : j < l.length) : l.getD j zK ∈ l := by
 rw [List.getD_eq_getElem?_getD, List.getElem?_eq_getElem h]; exact List.getElem_mem h
structure Ph where
 e : Pt
 ps : Option Addr
 cs : Nat
 ce : Pt
 l : Pl
def cellsH (h : Hr) (p : Ph) : List Value := cellsE h.e p.e ++ (.slice p.ps h.st.length p.cs :: (cellsK (h.cn, h.ce) p.ce ++ (cellsL h.l p.l ++ [.bool h.told])))
structure IsH (w : World) (hb : Nat) (h : Hr) (p : Ph) : Prop where
 blk : w.heap[hb]? = some (.cells (cellsH h p).toArray 79 (0, 0))
 ev : IsE (· < w.heap.size) w h.e p.e
 st : RdE (· < w.heap.size) w p.ps p.cs h.st
 lv : IsL (· < w.heap.size) w h.l p.l
theorem IsH.below {w w' : World} {hb : Nat} {h : Hr} {p : Ph} (x : IsH w hb h p) (b : Below w.heap.size w w') : IsH w' hb h p :=
 ⟨(b.block hb (objP_lt x.blk)).trans x.blk, x.ev.carry fun k hk => ⟨Nat.lt_of_lt_of_le hk b.size, b.block k hk⟩, x.st.carry fun k hk => ⟨Nat.lt_of_lt_of_le hk b.size, b.block k hk⟩, x.lv.carry fun k hk => ⟨Nat.lt_of_lt_of_le hk b.size, b.block k hk⟩⟩
structure SzH (h : Hr) : Prop where
 e : SzE h.e
 st : SzK h.st
 l : SzL h.l
section
variable {w : World} {hb : Nat} {h : Hr} {p : Ph}
theorem IsH.cell (x : IsH w hb h p) (n : Nat) (v : Value) (hv : (cellsH h p).toArray[n]? = some v) : w.cell? ⟨hb, n, none⟩ = some v := cellP x.blk n v hv
theorem IsH.sender (x : IsH w hb h p) : w.cell? ⟨hb, 2, none⟩ = some (.string h.e.sender) := x.cell 2 _ rfl
theorem IsH.isSt (x : IsH w hb h p) : w.cell? ⟨hb, 3, none⟩ = some (.bool h.e.st) := x.cell 3 _ rfl
theorem IsH.key (x : IsH w hb h p) : w.cell? ⟨hb, 4, none⟩ = some (.string h.e.key) := x.cell 4 _ rfl
theorem IsH.prev (x : IsH w hb h p) : w.cell? ⟨hb, 10, none⟩ = some (.slice p.e.pp h.e.prev.length p.e.cp) := x.cell 10 _ rfl
theorem IsH.state (x : IsH w hb h p) : w.cell? ⟨hb, 16, none⟩ = some (.slice p.ps h.st.length p.cs) := x.cell 16 _ rfl
theorem IsH.cname (x : IsH w hb h p) : w.cell? ⟨hb, 17, none⟩ = some (.string h.cn) := x.cell 17 _ rfl
theorem IsH.csend (x : IsH w hb h p) : w.cell? ⟨hb, 20, none⟩ = some (.string h.ce.sender) := x.cell 20 _ rfl
theorem IsH.ban (x : IsH w hb h p) : w.cell? ⟨hb, 34, none⟩ = some (.int .i64 h.l.ban) := x.cell 34 _ rfl
theorem IsH.kick (x : IsH w hb h p) : w.cell? ⟨hb, 35, none⟩ = some (.int .i64 h.l.kick) := x.cell 35 _ rfl
theorem IsH.invite (x : IsH w hb h p) : w.cell? ⟨hb, 36, none⟩ = some (.int .i64 h.l.invite) := x.cell 36 _ rfl
theorem IsH.isTold (x : IsH w hb h p) : w.cell? ⟨hb, 43, none⟩ = some (.bool h.told) := x.cell 43 _ rfl
end
theorem keep_setRow (w : World) (g : Nat) (cs : Array Value) : Keep (OneP g) w (w.setRow g cs) := by
 refine ⟨rfl, rfl, rfl, by simp [World.setRow], fun k _ hk => ?_⟩
 unfold World.setRow
 simp only [Array.getElem?_modify]
 rw [if_neg (fun e => hk (by unfold OneP; exact e.symm))]
theorem range_of {w : World} {b t : Nat} {fr : Nat × Nat} {cs : List Value} (h : w.heap[b]? = some (.cells cs.toArray t fr)) : w.rangeAt b 0 cs := fun j v hv => by
 rw [Nat.zero_add]
 exact cellP h j v (by simpa using hv)
theorem range_sub {w : World} {b t : Nat} {fr : Nat × Nat} {cs ds : List Value} (h : w.heap[b]? = some (.cells cs.toArray t fr)) (o : Nat) (hd : (cs.drop o).take ds.length = ds) : w.rangeAt b o ds := fun j v hv => by
 refine cellP h (o + j) v ?_
 rw [← hd, List.getElem?_take] at hv
 split at hv
 · rw [List.getElem?_drop] at hv
   simpa using hv
 · cases hv
theorem wpList_store_row {ops : Array Oper} {rest : List Oper} {op : Oper} {a : Act} {w : World} {Q : Exit → Act → World → Prop} (hgd : op.guard = none) (ty : TypeId) (x y : Operand) (ho : op.op = .store ty x y)
    (g t : Nat) (old cells : Array Value) (hx : a.eval x = .pointer (some ⟨g, 0, none⟩)) (hy : a.eval y = .agg cells) (hg : w.heap[g]? = some (.cells old t (0, 0)))
    (hi : (Tryz.prog.info? ty).map (·.size) = some cells.size) (hs : old.size = cells.size) (h1 : cells.all (·.oneCell') = true)
    (h : wpList Tryz.prog ops Q rest (a.put op.dst undef) (w.setRow g cells)) : wpList Tryz.prog ops Q (op :: rest) a w := by
 refine wpList_plain hgd fun K' hK' => ?_
 unfold Oper.wp execOp
 simp only [ho, hx, hy, Instr.storeAt, Instr.sureAddr, Sem.run_bind, Sem.run_pure, Result.andThen_ok, run_storeVar_row w g t ty old cells hg hi hs h1]
 exact hK' _ _ h
theorem one_E (e : Ev) (p : Pt) : (cellsE e p).toArray.all (·.oneCell') = true := all_oneCell_toArray fun v hv => by
 simp only [cellsE, List.mem_cons, List.not_mem_nil, or_false] at hv
 rcases hv with rfl | rfl | rfl | rfl | rfl | rfl | rfl | rfl | rfl | rfl | rfl | rfl | rfl | rfl | rfl | rfl <;> rfl
theorem one_K (k : Kn) (p : Pt) : (cellsK k p).toArray.all (·.oneCell') = true := all_oneCell_toArray fun v hv => by
 simp only [cellsK, cellsE, List.mem_cons, List.not_mem_nil, or_false] at hv
 rcases hv with rfl | rfl | rfl | rfl | rfl | rfl | rfl | rfl | rfl | rfl | rfl | rfl | rfl | rfl | rfl | rfl | rfl <;> rfl
theorem infoK : (Tryz.prog.info? 45).map (·.size) = some 17 := by kernel_rfl
theorem infoE : (Tryz.prog.info? 28).map (·.size) = some 16 := by kernel_rfl
theorem infoL : (Tryz.prog.info? 37).map (·.size) = some 9 := by kernel_rfl
theorem loadK_at {w : World} {b o : Nat} {k : Kn} {q : Pt} (h : w.rangeAt b o (cellsK k q)) : (loadVar 45 ⟨b, o, none⟩).run Tryz.prog w = .ok (valK k q) w := run_loadVar_mid w b o 45 (cellsK k q) _ h Tryz.underlying45 rfl infoK
theorem wpList_load_midg {ops : Array Oper} {rest : List Oper} {o : Oper} {a : Act} {w : World} {Q : Exit → Act → World → Prop} (hg : Region.wanted o (yielded ops a.tmps) = true) (ty : TypeId) (m : Operand) (hop : o.op = Op.load ty m) (b ofs : Nat) (hm : a.eval m = .pointer (some ⟨b, ofs, none⟩)) (cs : List Value)
    (hl : (Instr.loadAt ty (.pointer (some ⟨b, ofs, none⟩))).run Tryz.prog w = .ok (.agg cs.toArray) w)
    (hK : wpList Tryz.prog ops Q rest (a.put o.dst (.agg cs.toArray)) w) : wpList Tryz.prog ops Q (o :: rest) a w := by
 simp only [wpList, hg, if_true]
 refine Or.inl ?_
 unfold Oper.wp
 simp [execOp, hop, hm, hl, Result.andThen]
 exact hK
end Go.Proofs.YtldegjjaknelgabGreatDoor
namespace Go.Proofs.YtldegjjaknelgabGreatDoor
open Go.RowKit Go.Maps
theorem run_makeMap_room {t k e : TypeId} (ht : Tryz.prog.underlying t = some (.map k e)) (n : Int) (w : World) : (Instr.makeMap t (some (.int .i64 n))).run Tryz.prog w = .ok (.map (some w.heap.size)) (w.alloc (.map #[] 0)) := by
 simp [Instr.makeMap, run_underlying ht, asInt, asIntOf, Result.andThen]
def SetOf (w : World) (M : Nat) (ks : List ByteArray) : Prop :=
 ∃ D : DataW Unit, w.ownsMap Tryz.prog 9 (unitElem (H := Unit)) M ks.length D ∧ (∀ s, okS s → Maps.has D (klS s) = hasK ks s) ∧ Maps.size D ≤ ks.length ∧ (Maps.size D = ks.length ↔ noKeyTwice ks = true)
theorem SetOf.made (w : World) : SetOf (w.alloc (.map #[] 0)) w.heap.size [] :=
 ⟨.map [], World.ownsMap_made _ _ _ _, fun _ _ => rfl, Nat.le_refl _, ⟨fun _ => rfl, fun _ => rfl⟩⟩
theorem hasK_mem {ks : List ByteArray} {s : ByteArray} : hasK ks s = true ↔ s ∈ ks := by
 unfold hasK
 rw [List.any_eq_true]
 constructor
 · rintro ⟨x, hx, h⟩
   have : x = s := by
    have h := of_decide_eq_true h
    cases x; cases s
    simp only at h
    rw [h]
   exact this ▸ hx
 · exact fun h => ⟨s, h, by simp⟩
theorem noTwice_snoc (ks : List ByteArray) (s : ByteArray) : noKeyTwice (ks ++ [s]) = true ↔ noKeyTwice ks = true ∧ hasK ks s = false := by
 constructor
 · intro h
   have h := List.pairwise_append.1 (noTwice_pair h)
   refine ⟨pair_noTwice h.1, ?_⟩
   cases e : hasK ks s with
   | false => rfl
   | true => exact absurd rfl (h.2.2 s (hasK_mem.1 e) s (by simp))
 · rintro ⟨h1, h2⟩
   refine pair_noTwice (List.pairwise_append.2 ⟨noTwice_pair h1, List.pairwise_singleton _ _, fun a ha b hb e => ?_⟩)
   rw [List.mem_singleton.1 hb] at e
   rw [hasK_mem.2 (e ▸ ha)] at h2
   cases h2
theorem SetOf.put {w w2 : World} {M : Nat} {ks : List ByteArray} {D : DataW Unit} {s : ByteArray} (h0 : w.ownsMap Tryz.prog 9 (unitElem (H := Unit)) M ks.length D) (hown : w2.ownsMap Tryz.prog 9 (unitElem (H := Unit)) M (ks.length + 1) (D.put (klS s) (.agg [])))
    (hh : ∀ s, okS s → Maps.has D (klS s) = hasK ks s) (h1 : Maps.size D ≤ ks.length) (h2 : Maps.size D = ks.length ↔ noKeyTwice ks = true) (hs : okS s) : SetOf w2 M (ks ++ [s]) := by
 have hm := h0.isMap
 have hsz := size_put (k := klS s) (h0.tidy law9) (.agg [])
 rw [hh s hs] at hsz
 refine ⟨D.put (klS s) (.agg []), by rw [List.length_append]; exact hown, fun x hx => ?_, ?_, ?_⟩
 · rw [hasK_snoc]
   by_cases e : x = s
   · subst e
     rw [has_put_same hm (show WideAt.IsKeyLit (klS x) from trivial)]
     simp
   · rw [has_put_other (fun h' => e (klS_inj h')), hh x hx]
     have : decide (s.data = x.data) = false := by
      apply decide_eq_false
      intro h'
      apply e
      cases x; cases s
      simp only at h'
      rw [h']
     rw [this, Bool.or_false]
 · rw [hsz, List.length_append]
   split <;> simp <;> omega
 · rw [hsz, List.length_append, noTwice_snoc, ← h2]
   cases e : hasK ks s with
   | true => simp; omega
   | false => simp
theorem once_any {O : Nat → Prop} {ks : List ByteArray} {p : Option Addr} {c : Nat} {w : World} (hrd : RdK O w p c ks) (hO : ∀ k, O k → k < w.heap.size) (hl : ks.length ≤ 100000) (hkz : ∀ k ∈ ks, k.size ≤ 1000000000) :
    Calls Tryz.prog 101 #[.slice p ks.length c] w fun x w' => x = .returned (.bool (noKeyTwice ks)) ∧ Below w.heap.size w w' := by
 obtain ⟨n, hn⟩ : ∃ n, ks.length = n := ⟨_, rfl⟩
 have HN : Hid (ks.length = n) := hn
 have hcc := hrd.1
 rw [hn] at hl hcc ⊢
 clear hn
 have hmm := run_makeMap_room Tryz.underlying155
 go_enter Tryz.func101, Tryz.ntmps101
 go_wp2
 clear hmm
 go_loopw [11] (fun i wr => ∃ k : Nat, i = .int .i64 k ∧ k ≤ n ∧ Below w.heap.size w wr ∧ SetOf wr w.heap.size (ks.take k)) (fun i _ => n - (intOf i).toNat)
 case atStart => exact ⟨0, rfl, Nat.zero_le _, (Below.refl _ _).alloc (Nat.le_refl _) _, SetOf.made w⟩
 case round =>
  obtain ⟨k, rfl, hk, hb, D, hown, hhas, hs1, hs2⟩ := hrel
  have HH : Hid (∀ s, okS s → Maps.has D (klS s) = hasK (ks.take k) s) := hhas
  have HS2 : Hid (Maps.size D = (ks.take k).length ↔ noKeyTwice (ks.take k) = true) := hs2
  have HS1 : Hid (Maps.size D ≤ (ks.take k).length) := hs1
  have HTL : Hid ((ks.take k).length = k) := by show _ = _; rw [List.length_take, HN.out]; omega
  clear hhas hs1 hs2
  by_cases hlt : k < n
  · have hki : (k : Int) < (n : Int) := by omega
    obtain ⟨a, hpa, hOa, hca⟩ := hrd.2 k (by rw [HN.out]; exact hlt)
    subst hpa
    have hcell : wr.cell? (a.add k) = some (.string (ks.getD k nix)) := (World.cell?_of_block (by rw [add_block]; exact hb.block _ (hO _ hOa))).trans hca
    have hTS : ks.take (k + 1) = ks.take k ++ [ks.getD k nix] := by
     have hkl : k < ks.length := by rw [HN.out]; exact hlt
     rw [List.take_add_one, List.getElem?_eq_getElem hkl, List.getD_eq_getElem?_getD, List.getElem?_eq_getElem hkl]; rfl
    have hus : (ks.getD k nix).size ≤ 1000000000 := hkz _ (by
     have hkl : k < ks.length := by rw [HN.out]; exact hlt
     rw [List.getD_eq_getElem?_getD, List.getElem?_eq_getElem hkl]; exact List.getElem_mem _)
    obtain ⟨u, hu⟩ : ∃ u, ks.getD k nix = u := ⟨_, rfl⟩
    rw [hu] at hcell hTS hus
    have HTS : Hid (ks.take (k + 1) = ks.take k ++ [u]) := hTS
    clear hTS hu hca
    have hok : okS u := by unfold okS maxLen; omega
    have hkey := keyS hok
    have HML : Hid ((ks.take k).length < maxLen) := by show _ < _; rw [HTL.out]; unfold maxLen; omega
    have HV : Hid (unitElem (H := Unit) (.agg #[]) = some (.agg [], [])) := unitElem_mk
    go_wp2_with (at_mapUpdate; refine wpList_mapUpdate_own _ rfl _ _ _ 155 rfl 9 156 law9 Tryz.underlying155 _ w.heap.size (ks.take k).length D rfl hown HML.out _ _ _ rfl rfl hkey (.agg []) [] HV.out ?_; intro w2 hown2 hg2)
    go_roundw
    case rel => exact ⟨k + 1, by go_num, hlt, hb.trans ((Keep.of_grown (S := fun k => k = w.heap.size) hg2 fun _ _ e => (Option.some.inj e).symm).below hb.size fun k hk => by omega), by rw [HTS.out]; exact SetOf.put hown hown2 HH.out HS1.out HS2.out hok⟩
    case measure => simp [intOf]; omega
  · obtain rfl : k = n := by omega
    have hTA : ks.take k = ks := List.take_of_length_le (by rw [HN.out]; omega)
    have hr : decide ((Maps.size D : Int) = (k : Int)) = noKeyTwice ks := by
     have h := HS2.out
     rw [hTA, HN.out] at h
     rw [Bool.eq_iff_iff, ← h, decide_eq_true_eq]
     omega
    have HR : Hid (decide ((Maps.size D : Int) = (k : Int)) = noKeyTwice ks) := hr
    clear hr hTA
    go_wp2_with (at_len; refine wpList_len_own _ rfl _ 155 rfl 9 156 Tryz.underlying155 _ w.heap.size (ks.take k).length D rfl hown ?_)
    go_ret
    exact ⟨ret_bool (by first | exact HR.out | simpa using HR.out), hb⟩
end Go.Proofs.YtldegjjaknelgabGreatDoor
namespace Go.Proofs.YtldegjjaknelgabGreatDoor
open Go.RowKit
def Els (O : Nat → Prop) (B : Nat) (vk vl : Value) (w : World) : Nat → Prop := fun k => O k ∨ (B ≤ k ∧ k < w.heap.size ∧ vk.ownBlock ≠ some k ∧ vl.ownBlock ≠ some k)
structure TI (O : Nat → Prop) (B g : Nat) (kd : Int) (WB : World) (ks : List ByteArray) (js : List J) (vk vl : Value) (w : World) : Prop where
 obj : w.heap[g]? = some (.cells #[.int .i64 kd, .int .i64 0, .string ⟨#[]⟩, vk, vl] 25 (0, 0))
 keys : w.ownsRow B 9 1 vk ks.length (ks.map Value.string)
 vals : ∃ xs, w.ownsRow B 25 5 vl js.length xs ∧ isRow (Els O B vk vl w) w js xs
 ne : ∀ i, vk.ownBlock = some i → vl.ownBlock ≠ some i
 keep : Keep (One g) WB w
 szB : WB.heap.size = B
 lt : g < B
 low : ∀ k, O k → k < B ∧ k ≠ g
theorem own_sl {w : World} {B e size n : Nat} {v : Value} {xs : List Value} (h : w.ownsRow B e size v n xs) : ∃ q c, v = .slice q n c := by
 rcases h.2 with ⟨h', h0⟩ | ⟨g', cap', cur, h', _⟩
 · exact ⟨none, 0, by rw [h', h0]⟩
 · exact ⟨_, _, h'⟩
section
variable {O : Nat → Prop} {B g : Nat} {kd : Int} {WB W W2 W5 : World} {ks : List ByteArray} {js : List J} {vk vl vk' vl' : Value}
theorem TI.size (h : TI O B g kd WB ks js vk vl W) : B ≤ W.heap.size := by have := h.keep.size; have := h.szB; omega
theorem TI.start (hsz : WB.heap.size = B) (hg : g < B) (hlow : ∀ k, O k → k < B ∧ k ≠ g) (hobj : WB.heap[g]? = some (.cells #[.int .i64 kd, .int .i64 0, .string ⟨#[]⟩, .slice none 0 0, .slice none 0 0] 25 (0, 0))) : TI O B g kd WB [] [] (.slice none 0 0) (.slice none 0 0) WB :=
 ⟨hobj, World.ownsRow_nil _ _ _ _, ⟨[], World.ownsRow_nil _ _ _ _, rfl⟩, (fun i h => by cases h), Keep.refl _ _, hsz, hg, hlow⟩
theorem TI.more (h : TI O B g kd WB ks js vk vl W) (hb : Below W.heap.size W W2) : TI O B g kd WB ks js vk vl W2 := by
 have hs := h.size
 have hlt := h.lt
 obtain ⟨xs, h1, h2⟩ := h.vals
 have kp : Keep (fun _ => False) W W2 := Keep.of_below hb
 refine ⟨(hb.block g (by omega)).trans h.obj, own_keep h.keys kp fun _ _ h => h, ⟨xs, own_keep h1 kp fun _ _ h => h, h2.carry fun k hk => ?_⟩, h.ne, h.keep.trans kp fun _ _ h => h.elim, h.szB, hlt, h.low⟩
 rcases hk with hk | hk
 · have := h.low k hk
   exact ⟨.inl hk, hb.block k (by omega)⟩
 · exact ⟨.inr ⟨hk.1, by have := hk.2.1; have := hb.size; omega, hk.2.2⟩, hb.block k hk.2.1⟩
theorem TI.drew (h : TI O B g kd WB ks js vk vl W) : TI O B g kd WB ks js vk vl W.drew := h.more ⟨rfl, rfl, rfl, Nat.le_refl _, fun _ _ => rfl⟩
theorem TI.alloc (h : TI O B g kd WB ks js vk vl W) (o : Obj) : TI O B g kd WB ks js vk vl (W.alloc o) := h.more ((Below.refl _ _).alloc (Nat.le_refl _) o)
theorem TI.fresh (h : TI O B g kd WB ks js vk vl W) (_hb : Below W.heap.size W W2) {y : J} {cs : List Value} (hy : isJ (fun k => O k ∨ New W W2 k) W2 y cs) : isJ (Els O B vk vl W2) W2 y cs := by
 have hs := h.size
 obtain ⟨xs, h1, _⟩ := h.vals
 refine hy.carry fun k hk => ⟨?_, rfl⟩
 rcases hk with hk | hk
 · exact .inl hk
 · have e1 := hk.1
   have e2 := hk.2
   exact .inr ⟨by omega, e2, fun e => by have := (own_ge h.keys k e).2; omega, fun e => by have := (own_ge h1 k e).2; omega⟩
theorem els_more (hb : Below W.heap.size W W2) (hO : ∀ k, O k → k < W.heap.size) {y : J} {cs : List Value} (hy : isJ (Els O B vk vl W) W y cs) : isJ (Els O B vk vl W2) W2 y cs := by
 refine hy.carry fun k hk => ?_
 rcases hk with hk | hk
 · exact ⟨.inl hk, hb.block k (hO k hk)⟩
 · exact ⟨.inr ⟨hk.1, by have := hk.2.1; have := hb.size; omega, hk.2.2⟩, hb.block k hk.2.1⟩
theorem TI.key (h : TI O B g kd WB ks js vk vl W) {x : ByteArray} (hown : W2.ownsRow B 9 1 vk' (ks.length + 1) (ks.map Value.string ++ [.string x])) (hg : W.grownBy W2 vk.ownBlock) (hat : vk'.ownBlock = vk.ownBlock ∨ vk'.ownBlock = some W.heap.size) :
    W2.cell? ⟨g, 3, none⟩ = some vk ∧ W2.frozen? ⟨g, 3, none⟩ = false ∧ TI O B g kd WB (ks ++ [x]) js vk' vl (W2.setCell ⟨g, 3, none⟩ vk') ∧ ∀ k, Els O B vk vl W k → Els O B vk' vl (W2.setCell ⟨g, 3, none⟩ vk') k ∧ (W2.setCell ⟨g, 3, none⟩ vk').heap[k]? = W.heap[k]? := by
 have hs := h.size
 have hlt := h.lt
 have hss := hg.size
 have hgk := own_ge h.keys
 obtain ⟨xs, hv1, hv2⟩ := h.vals
 have hgv := own_ge hv1
 have low : ∀ k, k < B → W2.heap[k]? = W.heap[k]? := fun k hk => hg.block k (by omega) fun e => by have := (hgk k e.symm).1; omega
 have ob : W2.heap[g]? = some (.cells #[.int .i64 kd, .int .i64 0, .string ⟨#[]⟩, vk, vl] 25 (0, 0)) := (low g hlt).trans h.obj
 have K3 : Keep (One g) W2 (W2.setCell ⟨g, 3, none⟩ vk') := Keep.setCell (Keep.refl _ _) (fun _ => (rfl : g = g)) _
 have hgk' := own_ge hown
 have carry : ∀ k, Els O B vk vl W k → Els O B vk' vl (W2.setCell ⟨g, 3, none⟩ vk') k ∧ (W2.setCell ⟨g, 3, none⟩ vk').heap[k]? = W.heap[k]? := fun k hk => by
  rcases hk with hk | hk
  · have := h.low k hk
    exact ⟨.inl hk, by rw [K3.block k (by omega) (by unfold One; omega), low k this.1]⟩
  · have e1 := hk.1
    have e2 := hk.2.1
    refine ⟨.inr ⟨e1, by have := K3.size; omega, fun e => ?_, hk.2.2.2⟩, by rw [K3.block k (by omega) (by unfold One; omega), hg.block k e2 fun e => hk.2.2.1 e.symm]⟩
    rcases hat with h' | h'
    · exact hk.2.2.1 (h' ▸ e)
    · rw [h'] at e
      have := Option.some.inj e
      omega
 refine ⟨five_c3 ob, five_fz ob 3, ⟨?_, ?_, ⟨xs, ?_, hv2.carry carry⟩, ?_, ?_, h.szB, hlt, h.low⟩, carry⟩
 · rw [heap_setCell_same _ g 3 _ _ _ ob]; rfl
 · rw [List.length_append, List.map_append]
   exact own_keep hown K3 fun k e => by have := (hgk' k e).1; unfold One; omega
 · refine own_keep (own_keep hv1 (S := fun k => vk.ownBlock = some k) (Keep.of_grown hg fun _ _ e => e) fun k e e' => h.ne k e' e) K3 fun k e => by have := (hgv k e).1; unfold One; omega
 · intro i e e'
   rcases hat with h1 | h1
   · exact h.ne i (h1 ▸ e) e'
   · rw [h1] at e
     have h2 := (hgv i e').2
     have h3 := Option.some.inj e
     omega
 · exact (h.keep.trans (S' := fun k => vk.ownBlock = some k) (Keep.of_grown hg fun _ _ e => e) fun k hk e => by have := (hgk k e).1; have := h.szB; omega).then K3
theorem TI.val (h : TI O B g kd WB ks js vk vl W) {y : J} {cs xs : List Value} (hv1 : W.ownsRow B 25 5 vl js.length xs) (hv2 : isRow (Els O B vk vl W) W js xs) (hy : isJ (Els O B vk vl W) W y cs) (hg : W.grownBy W2 vl.ownBlock) (hat : vl'.ownBlock = vl.ownBlock ∨ vl'.ownBlock = some W.heap.size)
    (hobj : W5.heap[g]? = some (.cells #[.int .i64 kd, .int .i64 0, .string ⟨#[]⟩, vk, vl'] 25 (0, 0))) (hown : W5.ownsRow B 25 5 vl' (js.length + 1) (xs ++ cs)) (hk5 : Keep (fun k => k = g ∨ vl'.ownBlock = some k) W2 W5) : TI O B g kd WB ks (js ++ [y]) vk vl' W5 := by
 have hs := h.size
 have hlt := h.lt
 have hss := hg.size
 have hgk := own_ge h.keys
 have hgv := own_ge hv1
 have hgv' := own_ge hown
 have carry : ∀ k, Els O B vk vl W k → Els O B vk vl' W5 k ∧ W5.heap[k]? = W.heap[k]? := by
  intro k hk
  rcases hk with hk | hk
  · have := h.low k hk
    exact ⟨.inl hk, by rw [hk5.block k (by omega) (fun e => e.elim (fun e => this.2 e) fun e => by have := (hgv' k e).1; omega), hg.block k (by omega) fun e => by have := (hgv k e.symm).1; omega]⟩
  · have e1 := hk.1
    have e2 := hk.2.1
    have e3 : vl'.ownBlock ≠ some k := fun e => by
     rcases hat with h' | h'
     · exact hk.2.2.2 (h' ▸ e)
     · rw [h'] at e
       have := Option.some.inj e
       omega
    exact ⟨.inr ⟨e1, by have := hk5.size; omega, hk.2.2.1, e3⟩, by rw [hk5.block k (by omega) (fun e => e.elim (fun e => by omega) e3), hg.block k e2 fun e => hk.2.2.2 e.symm]⟩
 refine ⟨hobj, ?_, ⟨xs ++ cs, by rw [List.length_append]; exact hown, isRow.snoc hy.five (hy.carry carry) js xs (hv2.carry carry)⟩, ?_, ?_, h.szB, hlt, h.low⟩
 · refine own_keep (own_keep h.keys (S := fun k => vl.ownBlock = some k) (Keep.of_grown hg fun _ _ e => e) fun k e e' => h.ne k e e') hk5 fun k e e' => ?_
   rcases e' with e' | e'
   · have := (hgk k e).1; omega
   · rcases hat with h' | h'
     · exact h.ne k e (h' ▸ e')
     · rw [h'] at e'
       have := Option.some.inj e'
       have := (hgk k e).2
       omega
 · intro i e e'
   rcases hat with h' | h'
   · exact h.ne i e (h' ▸ e')
   · rw [h'] at e'
     have := Option.some.inj e'
     have := (hgk i e).2
     omega
 · refine (h.keep.trans (S' := fun k => vl.ownBlock = some k) (Keep.of_grown hg fun _ _ e => e) fun k hk e => by have := (hgv k e).1; have := h.szB; omega).trans hk5 fun k hk e => ?_
   rcases e with e | e
   · exact e
   · have := (hgv' k e).1
     have := h.szB
     omega
end
def st5 (w : World) (b o : Nat) (v0 v1 v2 v3 v4 : Value) : World := ((((w.setCell ⟨b, o, none⟩ v0).setCell ⟨b, o + 1, none⟩ v1).setCell ⟨b, o + 2, none⟩ v2).setCell ⟨b, o + 3, none⟩ v3).setCell ⟨b, o + 4, none⟩ v4
theorem st5_keep (w : World) (b o : Nat) (v0 v1 v2 v3 v4 : Value) : Keep (One b) w (st5 w b o v0 v1 v2 v3 v4) := by
 have K : ∀ (W : World) (o : Nat) (v : Value), Keep (One b) W (W.setCell ⟨b, o, none⟩ v) := fun W o v => Keep.setCell (Keep.refl _ _) (fun _ => (rfl : b = b)) _
 exact ((((K _ _ _).then (K _ _ _)).then (K _ _ _)).then (K _ _ _)).then (K _ _ _)
theorem st5_own {w : World} {B e b m cap : Nat} {xs : List Value} {z0 z1 z2 z3 z4 : Value} (h : w.ownsRow B e 5 (.slice (some ⟨b, 0, none⟩) (m + 1) cap) (m + 1) (xs ++ [z0, z1, z2, z3, z4])) (hx : xs.length = m * 5) (v0 v1 v2 v3 v4 : Value) :
    (st5 w b (m * 5) v0 v1 v2 v3 v4).ownsRow B e 5 (.slice (some ⟨b, 0, none⟩) (m + 1) cap) (m + 1) (xs ++ [v0, v1, v2, v3, v4]) := by
 have h1 := (((((h.stored (m * 5) v0).1.stored (m * 5 + 1) v1).1.stored (m * 5 + 2) v2).1.stored (m * 5 + 3) v3).1.stored (m * 5 + 4) v4).1
 have e : (((((xs ++ [z0, z1, z2, z3, z4]).set (m * 5) v0).set (m * 5 + 1) v1).set (m * 5 + 2) v2).set (m * 5 + 3) v3).set (m * 5 + 4) v4 = xs ++ [v0, v1, v2, v3, v4] := by
  rw [← hx]
  simp
 rw [e] at h1
 exact h1
end Go.Proofs.YtldegjjaknelgabGreatDoor
