package inline

import (
	"strings"
	"testing"

	"stet/api"
)

// P13.1, 3: URLs and what is none.
func TestUrl(t *testing.T) {
	letters := strings.Repeat("a", 40)
	holdAll(t, []asked{
		{"a URL", "<http://x>", `link0-10#3(http://x|){"http://x"1-9}`},
		{"within text", "a<bc:d>e", `"a"0-1 link1-7#3(bc:d|){"bc:d"2-6} "e"7-8`},
		{"one letter more", "<ab:c>", `link0-6#3(ab:c|){"ab:c"1-5}`},
		{"no letter more", "<a:b>", `"<a:b>"0-5`},
		{"31 letters more", "<" + letters[:32] + ":b>", `link0-36#3(` + letters[:32] + `:b|){"` + letters[:32] + `:b"1-35}`},
		{"32 letters more", "<" + letters[:33] + ":b>", `"<` + letters[:33] + `:b>"0-37`},
		{"no byte behind the colon", "<ab:>", `link0-5#3(ab:|){"ab:"1-4}`},
		{"two colons", "<ab::>", `link0-6#3(ab::|){"ab::"1-5}`},
		{"other bytes of its first part", "<aB0+.-z:b>", `link0-11#3(aB0+.-z:b|){"aB0+.-z:b"1-10}`},
		{"capital letters", "<AB:c>", `link0-6#3(AB:c|){"AB:c"1-5}`},
		{"a digit first", "<1b:c>", `"<1b:c>"0-6`},
		{"a mark first", "<+b:c>", `"<+b:c>"0-6`},
		{"nothing first", "<:c>", `"<:c>"0-4`},
		{"an underscore", "<a_b:c>", `"<a_b:c>"0-7`},
		{"a letter of two bytes", "<a\u00e4:c>", "\"<aä:c>\"0-7"},
		{"a blank", "<ab:c d>", `"<ab:c d>"0-8`},
		{"a blank at the end", "<ab:c >", `"<ab:c >"0-7`},
		{"a blank ahead", "< ab:c>", `"< ab:c>"0-7`},
		{"a blank ahead of the colon, an attribute", "<ab :c>", `raw0-7"<ab :c>"`},
		{"a blank ahead of the colon", "<ab :\"c>", `"<ab :\"c>"0-8`},
		{"a line's end", "<ab:c\nd>", `"<ab:c"0-5 soft5-6 "d>"6-8`},
		{"a tab", "<ab:c\td>", `"<ab:c\td>"0-8`},
		{"another \"<\"", "<ab:c<de:f>", `"<ab:c"0-5 link5-11#3(de:f|){"de:f"6-10}`},
		{"no end", "<ab:c", `"<ab:c"0-5`},
		{"no colon", "<ab>", `raw0-4"<ab>"`},
		{"two ends", "<ab:c>>", `link0-6#3(ab:c|){"ab:c"1-5} ">"6-7`},
		{"marks and backslashes as they are", "<ab:*\\*_`[&amp;]!>", "link0-18#3(ab:*\\*_`[&amp;]!|){\"ab:*\\\\*_`[&amp;]!\"1-17}"},
		{"characters and a byte 127", "<ab:\u00e4\x7f\xff>", "link0-9#3(ab:ä\x7f\xff|){\"ab:ä\\x7f\\xff\"1-8}"},
		{"an address in a URL", "<mailto:a@b>", `link0-12#3(mailto:a@b|){"mailto:a@b"1-11}`},
		{"within emphasis", "*<ab:*>*", `em0-8{link1-7#3(ab:*|){"ab:*"2-6}}`},
		{"no bracket is in it", "[<ab:]>](c)", `link0-11#1(c|){link1-7#3(ab:]|){"ab:]"2-6}}`},
		{"it makes no bracket asleep", "[<ab:c>](d)", `link0-11#1(d|){link1-7#3(ab:c|){"ab:c"2-6}}`},
	})
	for b := range 256 {
		one := string([]byte{byte(b)})
		whole := "<ab:" + one + ">"
		n := parsed(t, whole, nil).Nodes[1]
		if link := b > 32 && b != '<' && b != '>'; link != (n.Kind == api.KLink && n.To == len(whole)) {
			t.Errorf("%q: %+v", whole, n)
		}
	}
}

// P13.1, 3: addresses and what is none.
func TestAddress(t *testing.T) {
	holdAll(t, []asked{
		{"an address", "<a@b.c>", `link0-7#3(mailto:a@b.c|){"a@b.c"1-6}`},
		{"within text", "x<a@b>y", `"x"0-1 link1-6#3(mailto:a@b|){"a@b"2-5} "y"6-7`},
		{"no dot", "<a@b>", `link0-5#3(mailto:a@b|){"a@b"1-4}`},
		{"some dots", "<a@b.c.d-e>", `link0-11#3(mailto:a@b.c.d-e|){"a@b.c.d-e"1-10}`},
		{"all bytes ahead of \"@\"", "<.aZ09+_-.@b>", `link0-13#3(mailto:.aZ09+_-.@b|){".aZ09+_-.@b"1-12}`},
		{"all bytes behind \"@\"", "<a@-bZ09-.->", `link0-12#3(mailto:a@-bZ09-.-|){"a@-bZ09-.-"1-11}`},
		{"many letters", "<" + strings.Repeat("a", 70) + "@" + strings.Repeat("b", 70) + ">", `link0-143#3(mailto:` + strings.Repeat("a", 70) + "@" + strings.Repeat("b", 70) + `|){"` + strings.Repeat("a", 70) + "@" + strings.Repeat("b", 70) + `"1-142}`},
		{"no byte ahead of \"@\"", "<@b>", `"<@b>"0-4`},
		{"no byte behind \"@\"", "<a@>", `"<a@>"0-4`},
		{"a dot behind \"@\"", "<a@.b>", `"<a@.b>"0-6`},
		{"a dot at the end", "<a@b.>", `"<a@b.>"0-6`},
		{"two dots", "<a@b..c>", `"<a@b..c>"0-8`},
		{"another mark ahead", "<a!b@c>", `"<a!b@c>"0-7`},
		{"an underscore behind", "<a@b_c>", `"<a@b_c>"0-7`},
		{"a plus sign behind", "<a@b+c>", `"<a@b+c>"0-7`},
		{"two \"@\"", "<a@b@c>", `"<a@b@c>"0-7`},
		{"a backslash", "<a\\+@b>", `"<a+@b>"0-7`},
		{"a letter of two bytes ahead", "<\u00e4@b>", "\"<ä@b>\"0-6"},
		{"a letter of two bytes behind", "<a@\u00e4>", "\"<a@ä>\"0-6"},
		{"a blank ahead", "< a@b>", `"< a@b>"0-6`},
		{"a blank behind", "<a@b >", `"<a@b >"0-6`},
		{"a blank within", "<a @b>", `"<a @b>"0-6`},
		{"a line's end", "<a@\nb>", `"<a@"0-3 soft3-4 "b>"4-6`},
		{"no end", "<a@b", `"<a@b"0-4`},
		{"no end, and another one", "<a@b<c@d>", `"<a@b"0-4 link4-9#3(mailto:c@d|){"c@d"5-8}`},
		{"no \"@\"", "<a.b>", `"<a.b>"0-5`},
		{"underscores are no rows there", "_<_a_@b>_", `em0-9{link1-8#3(mailto:_a_@b|){"_a_@b"2-7}}`},
	})
}

// P13.1, 3: HTML, and "<" that begins nothing.
func TestRaw(t *testing.T) {
	holdAll(t, []asked{
		{"an open tag", "<b>", `raw0-3"<b>"`},
		{"an open tag with attributes", "<b c='d' e=f g />", `raw0-17"<b c='d' e=f g />"`},
		{"a closing tag", "</b >", `raw0-5"</b >"`},
		{"within text", "a<b>c</b>", `"a"0-1 raw1-4"<b>" "c"4-5 raw5-9"</b>"`},
		{"over lines", "<b\nc>", `raw0-5"<b\nc>"`},
		{"a comment", "<!-- a -- b -->c", `raw0-15"<!-- a -- b -->" "c"15-16`},
		{"short comments", "<!--><!--->", `raw0-5"<!-->" raw5-11"<!--->"`},
		{"an instruction", "<?a?>?>", `raw0-5"<?a?>" "?>"5-7`},
		{"a declaration", "<!A b>", `raw0-6"<!A b>"`},
		{"a section", "<![CDATA[a]]>]]>", `raw0-13"<![CDATA[a]]>" "]]>"13-16`},
		{"rows in it", "*<b c='*'>*", `em0-11{raw1-10"<b c='*'>"}`},
		{"backslashes in it", "<b c='\\'>'>", `raw0-9"<b c='\\'>" "'>"9-11`},
		{"entities in it", "<b c='&lt;'>", `raw0-12"<b c='&lt;'>"`},
		{"a bracket in it", "[<b c=']'>](d)", `link0-14#1(d|){raw1-10"<b c=']'>"}`},
		{"alone", "<", `"<"0-1`},
		{"ahead of a blank", "a < b", `"a < b"0-5`},
		{"no end", "<b", `"<b"0-2`},
		{"no end of a tag, and a tag", "<b <c>", `"<b "0-3 raw3-6"<c>"`},
		{"a digit", "<1>", `"<1>"0-3`},
		{"nothing", "<>", `"<>"0-2`},
		{"a slash alone", "</>", `"</>"0-3`},
		{"no comment", "<!- a -->", `"<!- a -->"0-9`},
		{"no end of a comment", "<!-- a", `"<!-- a"0-6`},
		{"no end of a comment, and a short one", "<!-x <!--> <!-- <b>", `"<!-x "0-5 raw5-10"<!-->" " <!-- "10-16 raw16-19"<b>"`},
		{"no end of an instruction, and a tag", "<?a <b>", `"<?a "0-4 raw4-7"<b>"`},
		{"no end of a comment, and others", "<!--<?a?><!A><![CDATA[]]>", `"<!--"0-4 raw4-9"<?a?>" raw9-13"<!A>" raw13-25"<![CDATA[]]>"`},
		{"no end of an instruction, and others", "<?<!-- --><!A><![CDATA[]]>", `"<?"0-2 raw2-10"<!-- -->" raw10-14"<!A>" raw14-26"<![CDATA[]]>"`},
		{"no end of a section, and others", "<![CDATA[<!-- --><!A><?a?>", `"<![CDATA["0-9 raw9-17"<!-- -->" raw17-21"<!A>" raw21-26"<?a?>"`},
		{"ends that are gone by", "--> ?> ]]> <!-- <? <![CDATA[ <!A", `"--> ?> ]]> <!-- <? <![CDATA[ <!A"0-32`},
		{"an end that is gone by, and one that isn't", "<? ?> <!-- --> <? <!--", `raw0-5"<? ?>" " "5-6 raw6-14"<!-- -->" " <? <!--"14-22`},
	})
}
